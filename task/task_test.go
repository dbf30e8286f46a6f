package task_test

import (
	"math"
	"math/rand"
	"slices"
	"testing"

	"aqueduct/api"
	"aqueduct/task"
)

const (
	idle   = api.TaskIdle
	ready  = api.TaskReady
	parked = api.TaskParked
)

// call is a call that changes the state of a task, with its row in the table of the chapter.
type call struct {
	name     string
	do       func(x *task.Tasks, n int) api.Errno
	from, to api.TaskState
}

var (
	start  = call{"Start", (*task.Tasks).Start, idle, ready}
	park   = call{"Park", (*task.Tasks).Park, ready, parked}
	wake   = call{"Wake", (*task.Tasks).Wake, parked, ready}
	finish = call{"Finish", (*task.Tasks).Finish, ready, idle}
	turn   = call{"Turn", (*task.Tasks).Turn, ready, ready}
)

// calls are all rows of the table of the chapter.
var calls = []call{start, park, wake, finish, turn}

// strangers are numbers that no table has a task for.
var strangers = []int{-1, -2, -api.MaxTasks, math.MinInt, api.MaxTasks, api.MaxTasks + 1, 1 << 16, 1 << 32, 1<<32 + 1, -1 << 32, math.MaxInt}

// table returns a table of idle tasks.
func table(t *testing.T, tasks int) *task.Tasks {
	t.Helper()
	x, e := task.New(tasks)
	if x == nil || e != api.OK {
		t.Fatalf("New(%d) = %v, %d", tasks, x, e)
	}
	return x
}

// expectCall checks that a call for a task returns a code.
func expectCall(t *testing.T, x *task.Tasks, c call, n int, want api.Errno) {
	t.Helper()
	if e := c.do(x, n); e != want {
		t.Errorf("%s(%d) = %d, not %d", c.name, n, e, want)
	}
}

// can checks that a call succeeds for some tasks, one after the other.
func can(t *testing.T, x *task.Tasks, c call, tasks ...int) {
	t.Helper()
	for _, n := range tasks {
		expectCall(t, x, c, n, api.OK)
	}
}

// expectRun checks the run set of a table, and that Next returns its first task.
func expectRun(t *testing.T, x *task.Tasks, want ...int) {
	t.Helper()
	if l := x.Ready(); !slices.Equal(l, want) {
		t.Errorf("Ready() = %v, not %v", l, want)
	}
	first, code := 0, api.ErrNone
	if len(want) > 0 {
		first, code = want[0], api.OK
	}
	if n, e := x.Next(); n != first || e != code {
		t.Errorf("Next() = %d, %d, not %d, %d", n, e, first, code)
	}
}

// expect checks the states of all tasks of a table, its run set, and that it has no other tasks.
func expect(t *testing.T, x *task.Tasks, states []api.TaskState, run ...int) {
	t.Helper()
	if x.Len() != len(states) {
		t.Errorf("Len() = %d, not %d", x.Len(), len(states))
	}
	for n, want := range states {
		if s, e := x.State(n); s != want || e != api.OK {
			t.Errorf("State(%d) = %d, %d, not %d", n, s, e, want)
		}
	}
	for _, n := range []int{-1, len(states)} {
		if s, e := x.State(n); s != 0 || e != api.ErrArg {
			t.Errorf("State(%d) of %d tasks = %d, %d", n, len(states), s, e)
		}
	}
	expectRun(t, x, run...)
}

// mixed returns a table of five tasks: 2 and 0 are parked, 1 is idle, and 4 and 3 are ready.
func mixed(t *testing.T) *task.Tasks {
	t.Helper()
	x := table(t, 5)
	can(t, x, start, 2, 4, 0, 3)
	can(t, x, park, 2, 0)
	expect(t, x, mixedStates, 4, 3)
	return x
}

// mixedStates are the states of the tasks of a mixed table.
var mixedStates = []api.TaskState{parked, idle, parked, ready, ready}

// The examples

func TestExamples(t *testing.T) {
	for _, tasks := range []int{0, 65} {
		if x, e := task.New(tasks); x != nil || e != api.ErrArg {
			t.Errorf("New(%d) = %v, %d", tasks, x, e)
		}
	}
	x := table(t, 3)
	can(t, x, start, 2, 0)
	expectCall(t, x, start, 0, api.ErrState)
	expectRun(t, x, 2, 0)
	can(t, x, park, 2)
	can(t, x, start, 1)
	can(t, x, wake, 2)
	expectRun(t, x, 0, 1, 2)
	expectCall(t, x, wake, 2, api.ErrState)
	can(t, x, turn, 0)
	expectRun(t, x, 1, 2, 0)
	can(t, x, finish, 1)
	expect(t, x, []api.TaskState{ready, idle, ready}, 2, 0)
}

// P8.1

func TestNewOfEachNumber(t *testing.T) {
	for tasks := 1; tasks <= api.MaxTasks; tasks++ {
		x := table(t, tasks)
		states := make([]api.TaskState, tasks)
		expect(t, x, states)
		for _, c := range calls {
			expectCall(t, x, c, tasks, api.ErrArg)
		}
		can(t, x, start, tasks-1)
		states[tasks-1] = ready
		expect(t, x, states, tasks-1)
	}
}

func TestNewOfNumbersThatAreNotAllowed(t *testing.T) {
	for _, tasks := range []int{0, -1, -2, -api.MaxTasks, math.MinInt, api.MaxTasks + 1, api.MaxTasks + 2, 2 * api.MaxTasks, 1 << 16, 1 << 32, 1<<32 + 1, math.MaxInt} {
		if x, e := task.New(tasks); x != nil || e != api.ErrArg {
			t.Errorf("New(%d) = %v, %d", tasks, x, e)
		}
	}
}

func TestTablesAreIndependent(t *testing.T) {
	a, b := table(t, 3), table(t, 3)
	can(t, a, start, 1, 0)
	expect(t, b, []api.TaskState{idle, idle, idle})
	can(t, b, start, 2, 0, 1)
	can(t, a, park, 1)
	can(t, b, turn, 2)
	expect(t, a, []api.TaskState{ready, parked, idle}, 0)
	expect(t, b, []api.TaskState{ready, ready, ready}, 0, 1, 2)
}

func TestStateOfEachTask(t *testing.T) {
	x := mixed(t)
	for range 2 {
		// Asking changes nothing.
		expect(t, x, mixedStates, 4, 3)
	}
	for _, n := range append([]int{5, 6}, strangers...) {
		if s, e := x.State(n); s != 0 || e != api.ErrArg {
			t.Errorf("State(%d) = %d, %d", n, s, e)
		}
	}
}

func TestLenStaysAsItIs(t *testing.T) {
	x := table(t, 7)
	for range 3 {
		for n := range 9 {
			for _, c := range []call{start, park, wake, turn, finish} {
				c.do(x, n)
				if x.Len() != 7 {
					t.Fatalf("Len() = %d after %s(%d)", x.Len(), c.name, n)
				}
			}
		}
	}
}

func TestCopy(t *testing.T) {
	x := mixed(t)
	c := x.Copy()
	expect(t, c, mixedStates, 4, 3)
	can(t, x, turn, 4)
	can(t, x, finish, 3)
	can(t, x, start, 1)
	can(t, x, wake, 2)
	expect(t, x, []api.TaskState{parked, ready, ready, idle, ready}, 4, 1, 2)
	expect(t, c, mixedStates, 4, 3)
	// The copy goes on from where it was made: what its tasks are, and what may leave the run set.
	can(t, c, wake, 0, 2)
	can(t, c, park, 3)
	can(t, c, start, 1)
	expect(t, c, []api.TaskState{ready, ready, ready, parked, ready}, 4, 0, 2, 1)
	can(t, c, turn, 4)
	can(t, c, finish, 2)
	expect(t, c, []api.TaskState{ready, ready, idle, parked, ready}, 0, 1, 4)
	expect(t, x, []api.TaskState{parked, ready, ready, idle, ready}, 4, 1, 2)
	can(t, x, park, 4, 1, 2)
	expect(t, x, []api.TaskState{parked, parked, parked, idle, parked})
	expect(t, c.Copy(), []api.TaskState{ready, ready, idle, parked, ready}, 0, 1, 4)
}

func TestCopyOfTablesOfWhichAllTasksAreAlike(t *testing.T) {
	for _, tasks := range []int{1, 2, api.MaxTasks} {
		states, all := make([]api.TaskState, tasks), make([]int, tasks)
		x := table(t, tasks)
		expect(t, x.Copy(), states)
		for n := range tasks {
			can(t, x, start, n)
			states[n], all[n] = ready, n
		}
		c := x.Copy()
		for n := range tasks {
			can(t, c, park, n)
		}
		expect(t, x, states, all...)
		expect(t, x.Copy(), states, all...)
		for n := range tasks {
			states[n] = parked
		}
		expect(t, c, states)
		expect(t, c.Copy(), states)
	}
}

// P8.2

// inEachState calls a function for a new table of three tasks, of which 0 and 2 are ready, once for each state of the task 1. In the run set, a ready task 1 is between the others.
func inEachState(t *testing.T, do func(x *task.Tasks, s api.TaskState)) {
	t.Helper()
	for _, s := range []api.TaskState{idle, ready, parked} {
		x := table(t, 3)
		switch s {
		case idle:
			can(t, x, start, 0, 2)
		case ready:
			can(t, x, start, 0, 1, 2)
		case parked:
			can(t, x, start, 0, 1, 2)
			can(t, x, park, 1)
		}
		do(x, s)
	}
}

func TestEachCallInEachState(t *testing.T) {
	for _, c := range calls {
		inEachState(t, func(x *task.Tasks, s api.TaskState) {
			run := []int{0, 2}
			switch {
			case c.from != s:
				before := x.Ready()
				for range 2 {
					expectCall(t, x, c, 1, api.ErrState)
					expect(t, x, []api.TaskState{ready, s, ready}, before...)
				}
				return
			case c.to == ready:
				run = append(run, 1)
			}
			can(t, x, c, 1)
			expect(t, x, []api.TaskState{ready, c.to, ready}, run...)
		})
	}
}

func TestEachCallForNumbersThatNoTaskHas(t *testing.T) {
	for _, c := range calls {
		inEachState(t, func(x *task.Tasks, s api.TaskState) {
			before := x.Ready()
			for _, n := range append([]int{3, 4}, strangers...) {
				expectCall(t, x, c, n, api.ErrArg)
			}
			expect(t, x, []api.TaskState{ready, s, ready}, before...)
		})
	}
}

func TestEachCallForTheOnlyTask(t *testing.T) {
	x := table(t, 1)
	for range 3 {
		expect(t, x, []api.TaskState{idle})
		can(t, x, start, 0)
		expect(t, x, []api.TaskState{ready}, 0)
		can(t, x, turn, 0, 0)
		expect(t, x, []api.TaskState{ready}, 0)
		can(t, x, park, 0)
		expect(t, x, []api.TaskState{parked})
		can(t, x, wake, 0)
		expect(t, x, []api.TaskState{ready}, 0)
		can(t, x, finish, 0)
	}
}

// leaveInEachOrder lets the tasks of a run set leave it in each order, idle or parked, and checks it after each one.
func leaveInEachOrder(t *testing.T, x *task.Tasks, states []api.TaskState, run []int) {
	t.Helper()
	for i, n := range run {
		for _, c := range []call{park, finish} {
			twin, after := x.Copy(), slices.Clone(states)
			can(t, twin, c, n)
			after[n] = c.to
			rest := slices.Delete(slices.Clone(run), i, i+1)
			expect(t, twin, after, rest...)
			expectCall(t, twin, turn, n, api.ErrState)
			leaveInEachOrder(t, twin, after, rest)
		}
	}
	expect(t, x, states, run...)
}

func TestTasksLeaveTheRunSetInEachOrder(t *testing.T) {
	x := table(t, 5)
	can(t, x, start, 3, 1, 4, 0)
	leaveInEachOrder(t, x, []api.TaskState{ready, ready, idle, ready, ready}, []int{3, 1, 4, 0})
	can(t, x, turn, 1, 3)
	leaveInEachOrder(t, x, []api.TaskState{ready, ready, idle, ready, ready}, []int{4, 0, 1, 3})
}

func TestTurnAtEachPlace(t *testing.T) {
	for _, tasks := range []int{2, 3, api.MaxTasks} {
		for place := range tasks {
			x := table(t, tasks)
			states, run := make([]api.TaskState, tasks), []int{}
			for i := range tasks {
				n := tasks - 1 - i
				can(t, x, start, n)
				states[n] = ready
				run = append(run, n)
			}
			n := run[place]
			run = append(slices.Delete(run, place, place+1), n)
			for range 2 {
				// The second time, it is the last one already.
				can(t, x, turn, n)
				expect(t, x, states, run...)
			}
		}
	}
}

// P8.3

func TestReadyIsInTheOrderInWhichTasksBecameReady(t *testing.T) {
	x := table(t, 6)
	expectRun(t, x)
	can(t, x, start, 5, 2, 4, 0)
	expectRun(t, x, 5, 2, 4, 0)
	can(t, x, park, 4, 5)
	expectRun(t, x, 2, 0)
	can(t, x, start, 3)
	can(t, x, wake, 5)
	can(t, x, start, 1)
	can(t, x, wake, 4)
	expectRun(t, x, 2, 0, 3, 5, 1, 4)
	can(t, x, finish, 2, 3)
	can(t, x, start, 3, 2)
	expectRun(t, x, 0, 5, 1, 4, 3, 2)
}

func TestReadyAndNextChangeNothing(t *testing.T) {
	x := mixed(t)
	for range 3 {
		expectRun(t, x, 4, 3)
	}
	can(t, x, finish, 4, 3)
	for range 3 {
		// Of idle and parked tasks, none is ready.
		expectRun(t, x)
	}
	expect(t, x, []api.TaskState{parked, idle, parked, idle, idle})
}

func TestReadySharesNoMemory(t *testing.T) {
	x := mixed(t)
	can(t, x, wake, 2)
	a, b := x.Ready(), x.Ready()
	a[0], a[1] = 7, -1
	a = append(a[:2], 9)
	expect(t, x, []api.TaskState{parked, idle, ready, ready, ready}, 4, 3, 2)
	can(t, x, finish, 4)
	can(t, x, turn, 3)
	if !slices.Equal(a, []int{7, -1, 9}) || !slices.Equal(b, []int{4, 3, 2}) {
		t.Error("lists have changed:", a, b)
	}
}

// P8.4

func TestTurnsComeRound(t *testing.T) {
	for _, tasks := range []int{1, 2, 5, api.MaxTasks} {
		x := table(t, tasks)
		var order []int
		for i := range tasks {
			// Each seventh task is not in the run set.
			if n := (i*29 + 3) % tasks; i%7 != 6 {
				can(t, x, start, n)
				order = append(order, n)
			}
		}
		for round := range 100 {
			for _, want := range order {
				n, e := x.Next()
				if n != want || e != api.OK {
					t.Errorf("%d tasks, round %d: Next() = %d, %d, not %d", tasks, round, n, e, want)
				}
				can(t, x, turn, n)
			}
			expectRun(t, x, order...)
		}
	}
}

// record is what a model knows of a task: its state, and since when it has been at its place in the run set.
type record struct {
	state api.TaskState
	since int
}

// model is a table whose run set is sorted whenever it is asked for.
type model struct {
	records []record
	now     int
}

// run returns the run set.
func (m *model) run() []int {
	var l []int
	for n, r := range m.records {
		if r.state == ready {
			l = append(l, n)
		}
	}
	slices.SortFunc(l, func(a, b int) int { return m.records[a].since - m.records[b].since })
	return l
}

// states returns the states of the tasks.
func (m *model) states() []api.TaskState {
	var l []api.TaskState
	for _, r := range m.records {
		l = append(l, r.state)
	}
	return l
}

// does lets a table and its model carry out a call for a task that there is.
func (m *model) does(t *testing.T, x *task.Tasks, c call, n int) {
	t.Helper()
	if m.records[n].state != c.from {
		expectCall(t, x, c, n, api.ErrState)
		return
	}
	can(t, x, c, n)
	m.now++
	m.records[n] = record{c.to, m.now}
}

// check checks that a table is as its model, and that its run set has each ready task once.
func (m *model) check(t *testing.T, x *task.Tasks) {
	t.Helper()
	expect(t, x, m.states(), m.run()...)
	times := make([]int, len(m.records))
	for _, n := range x.Ready() {
		times[n]++
	}
	for n, count := range times {
		if s, _ := x.State(n); (s == ready) != (count == 1) || count > 1 {
			t.Errorf("the task %d in the state %d is %d times in the run set", n, s, count)
		}
	}
}

func TestAllShortHistoriesAgreeWithTheModel(t *testing.T) {
	for tasks, steps := range map[int]int{1: 7, 2: 5, 3: 4} {
		var walk func(x *task.Tasks, m *model, left int)
		walk = func(x *task.Tasks, m *model, left int) {
			m.check(t, x)
			if left == 0 || t.Failed() {
				return
			}
			for n := range tasks {
				for _, c := range calls {
					twin, other := x.Copy(), &model{slices.Clone(m.records), m.now}
					other.does(t, twin, c, n)
					walk(twin, other, left-1)
				}
			}
		}
		walk(table(t, tasks), &model{records: make([]record, tasks)}, steps)
	}
}

func TestWalksAgreeWithTheModel(t *testing.T) {
	for seed, tasks := range []int{1, 2, 3, 4, 7, 30, 63, 64} {
		random := rand.New(rand.NewSource(int64(seed)))
		x, m := table(t, tasks), &model{records: make([]record, tasks)}
		for step := range 2000 {
			n, c := random.Intn(tasks), calls[random.Intn(len(calls))]
			if random.Intn(40) == 0 {
				n = []int{-1, tasks, math.MinInt, math.MaxInt}[random.Intn(4)]
				expectCall(t, x, c, n, api.ErrArg)
			} else {
				m.does(t, x, c, n)
			}
			m.check(t, x)
			if step%100 == 50 {
				x = x.Copy()
			}
			if t.Failed() {
				t.Fatalf("walk %d: step %d, %s(%d)", seed, step, c.name, n)
			}
		}
	}
}

// Nil and zero objects, and P1

func TestTablesThatAreNilOrZero(t *testing.T) {
	var none *task.Tasks
	for i, x := range []*task.Tasks{none, {}, new(task.Tasks)} {
		for range 2 {
			for _, n := range append([]int{0, 1, 63}, strangers...) {
				for _, c := range calls {
					expectCall(t, x, c, n, api.ErrNil)
				}
				if s, e := x.State(n); s != 0 || e != api.ErrNil {
					t.Errorf("%d: State(%d) = %d, %d", i, n, s, e)
				}
			}
			if n, e := x.Next(); n != 0 || e != api.ErrNil {
				t.Errorf("%d: Next() = %d, %d", i, n, e)
			}
			if x.Len() != 0 || x.Copy() != nil || len(x.Ready()) != 0 {
				t.Errorf("%d: Len() = %d, Copy() = %v, Ready() = %v", i, x.Len(), x.Copy(), x.Ready())
			}
		}
	}
}

func TestAStructThatIsCopiedIsTheSameTable(t *testing.T) {
	x := table(t, 4)
	twin := *x
	can(t, x, start, 3, 1)
	can(t, &twin, start, 0)
	can(t, &twin, turn, 3)
	can(t, x, park, 1)
	expectCall(t, &twin, start, 0, api.ErrState)
	expect(t, x, []api.TaskState{ready, parked, idle, ready}, 0, 3)
	expect(t, &twin, []api.TaskState{ready, parked, idle, ready}, 0, 3)
}
