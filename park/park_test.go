package park_test

import (
	"math"
	"math/rand"
	"slices"
	"testing"

	"aqueduct/api"
	"aqueduct/park"
)

const (
	idle   = api.TaskIdle
	ready  = api.TaskReady
	parked = api.TaskParked
)

// nowhere stands for a task that is not parked.
var nowhere = api.Spot{FD: -1, Dir: -1}

// read returns the spot of a descriptor where readers wait.
func read(fd int) api.Spot { return api.Spot{FD: fd, Dir: api.DirRead} }

// write returns the spot of a descriptor where writers wait.
func write(fd int) api.Spot { return api.Spot{FD: fd, Dir: api.DirWrite} }

// spots returns all spots, by descriptors and directions.
func spots() []api.Spot {
	var l []api.Spot
	for fd := range api.MaxFiles {
		l = append(l, read(fd), write(fd))
	}
	return l
}

// numbers are numbers that neither tasks nor descriptors have.
var numbers = []int{-1, -2, -api.MaxTasks, -api.MaxFiles, math.MinInt, api.MaxFiles, api.MaxFiles + 1, 255, 256, 1 << 16, 1 << 32, 1<<32 + 1, -1 << 32, math.MaxInt}

// invalid returns spots that are not valid, because of the descriptor, of the direction, or of both.
func invalid() []api.Spot {
	var l []api.Spot
	for _, n := range numbers {
		l = append(l, read(n), write(n), api.Spot{FD: n, Dir: 2}, api.Spot{FD: n, Dir: -1})
	}
	for _, d := range []int{-1, -2, 2, 3, 127, 128, 256, 257, 1 << 32, 1<<32 + 1, -1 << 32, math.MinInt, math.MaxInt} {
		l = append(l, api.Spot{FD: 0, Dir: api.Dir(d)}, api.Spot{FD: 5, Dir: api.Dir(d)}, api.Spot{FD: 127, Dir: api.Dir(d)})
	}
	return l
}

// call is a call that all tables of tasks have, with the states between which it changes a task.
type call struct {
	name     string
	do       func(l *park.Lot, task int) api.Errno
	from, to api.TaskState
}

var (
	start  = call{"Start", (*park.Lot).Start, idle, ready}
	finish = call{"Finish", (*park.Lot).Finish, ready, idle}
	turn   = call{"Turn", (*park.Lot).Turn, ready, ready}
)

// calls are the calls that do not have to do with spots.
var calls = []call{start, finish, turn}

// lot returns a lot of idle tasks.
func lot(t *testing.T, tasks int) *park.Lot {
	t.Helper()
	l, e := park.New(tasks)
	if l == nil || e != api.OK {
		t.Fatalf("New(%d) = %v, %d", tasks, l, e)
	}
	return l
}

// expectCall checks that a call for a task returns a code.
func expectCall(t *testing.T, l *park.Lot, c call, task int, want api.Errno) {
	t.Helper()
	if e := c.do(l, task); e != want {
		t.Errorf("%s(%d) = %d, not %d", c.name, task, e, want)
	}
}

// can checks that a call succeeds for some tasks, one after the other.
func can(t *testing.T, l *park.Lot, c call, tasks ...int) {
	t.Helper()
	for _, task := range tasks {
		expectCall(t, l, c, task, api.OK)
	}
}

// expectPark checks that Park returns a code.
func expectPark(t *testing.T, l *park.Lot, task int, at api.Spot, want api.Errno) {
	t.Helper()
	if e := l.Park(task, at); e != want {
		t.Errorf("Park(%d, %v) = %d, not %d", task, at, e, want)
	}
}

// parks checks that some tasks can be parked at a spot, one after the other.
func parks(t *testing.T, l *park.Lot, at api.Spot, tasks ...int) {
	t.Helper()
	for _, task := range tasks {
		expectPark(t, l, task, at, api.OK)
	}
}

// wakes checks that Wake returns some tasks, one after the other.
func wakes(t *testing.T, l *park.Lot, at api.Spot, tasks ...int) {
	t.Helper()
	for _, task := range tasks {
		if n, e := l.Wake(at); n != task || e != api.OK {
			t.Errorf("Wake(%v) = %d, %d, not %d", at, n, e, task)
		}
	}
}

// refusesWake checks that Wake returns an error.
func refusesWake(t *testing.T, l *park.Lot, at api.Spot, want api.Errno) {
	t.Helper()
	if n, e := l.Wake(at); n != 0 || e != want {
		t.Errorf("Wake(%v) = %d, %d, not 0, %d", at, n, e, want)
	}
}

// wakesAll checks that WakeAll returns some tasks.
func wakesAll(t *testing.T, l *park.Lot, at api.Spot, tasks ...int) {
	t.Helper()
	if x, e := l.WakeAll(at); !slices.Equal(x, tasks) || e != api.OK {
		t.Errorf("WakeAll(%v) = %v, %d, not %v", at, x, e, tasks)
	}
}

// leaves checks that a task can leave a spot.
func leaves(t *testing.T, l *park.Lot, task int, at api.Spot) {
	t.Helper()
	if s, e := l.Leave(task); s != at || e != api.OK {
		t.Errorf("Leave(%d) = %v, %d, not %v", task, s, e, at)
	}
}

// refusesLeave checks that Leave and Where return an error for a task.
func refusesLeave(t *testing.T, l *park.Lot, task int, want api.Errno) {
	t.Helper()
	if s, e := l.Leave(task); s != (api.Spot{}) || e != want {
		t.Errorf("Leave(%d) = %v, %d, not %d", task, s, e, want)
	}
	if s, e := l.Where(task); s != (api.Spot{}) || e != want {
		t.Errorf("Where(%d) = %v, %d, not %d", task, s, e, want)
	}
}

// expectQueue checks the tasks that wait at a spot.
func expectQueue(t *testing.T, l *park.Lot, at api.Spot, want ...int) {
	t.Helper()
	if x, e := l.Waiting(at); !slices.Equal(x, want) || e != api.OK {
		t.Errorf("Waiting(%v) = %v, %d, not %v", at, x, e, want)
	}
}

// expectWhere checks whether a task is parked, and where.
func expectWhere(t *testing.T, l *park.Lot, task int, want api.Spot) {
	t.Helper()
	code := api.OK
	if want == nowhere {
		want, code = api.Spot{}, api.ErrState
	}
	if s, e := l.Where(task); s != want || e != code {
		t.Errorf("Where(%d) = %v, %d, not %v, %d", task, s, e, want, code)
	}
}

// queues are the tasks that wait, by their spots.
type queues map[api.Spot][]int

// expect checks all that can be seen of a lot: the queues of all spots, the run set, and that all other tasks are idle.
func expect(t *testing.T, l *park.Lot, tasks int, q queues, run ...int) {
	t.Helper()
	expectAt(t, l, tasks, spots(), q, run)
}

// expectAt is expect, but for the queues of the other spots.
func expectAt(t *testing.T, l *park.Lot, tasks int, at []api.Spot, q queues, run []int) {
	t.Helper()
	states, where := make([]api.TaskState, tasks), make([]api.Spot, tasks)
	for task := range tasks {
		where[task] = nowhere
	}
	for _, task := range run {
		states[task] = ready
	}
	for _, at := range at {
		expectQueue(t, l, at, q[at]...)
		for _, task := range q[at] {
			states[task], where[task] = parked, at
		}
	}
	if l.Len() != tasks {
		t.Errorf("Len() = %d, not %d", l.Len(), tasks)
	}
	for task := range tasks {
		if s, e := l.State(task); s != states[task] || e != api.OK {
			t.Errorf("State(%d) = %d, %d, not %d", task, s, e, states[task])
		}
		expectWhere(t, l, task, where[task])
	}
	if x := l.Ready(); !slices.Equal(x, run) {
		t.Errorf("Ready() = %v, not %v", x, run)
	}
}

// mixed returns a lot of nine tasks: at two directions of a descriptor and at another one, some are parked, 3 and 8 are ready, and 5 is idle.
func mixed(t *testing.T) *park.Lot {
	t.Helper()
	l := lot(t, 9)
	can(t, l, start, 7, 2, 0, 3, 1, 6, 8, 4)
	parks(t, l, write(9), 2, 7)
	parks(t, l, read(9), 6, 0, 4)
	parks(t, l, read(0), 1)
	expectMixed(t, l)
	return l
}

// expectMixed checks that a lot is one that mixed has returned.
func expectMixed(t *testing.T, l *park.Lot) {
	t.Helper()
	expect(t, l, 9, queues{write(9): {2, 7}, read(9): {6, 0, 4}, read(0): {1}}, 3, 8)
}

// The examples

func TestExamples(t *testing.T) {
	l := lot(t, 3)
	can(t, l, start, 0, 1, 2)
	parks(t, l, read(5), 1, 0)
	parks(t, l, write(5), 2)
	expectQueue(t, l, read(5), 1, 0)
	wakes(t, l, read(5), 1)
	expectWhere(t, l, 0, read(5))
	expectWhere(t, l, 1, nowhere)
	leaves(t, l, 0, read(5))
	refusesWake(t, l, read(5), api.ErrNone)
	expect(t, l, 3, queues{write(5): {2}}, 1, 0)
	wakesAll(t, l, write(5), 2)
	wakesAll(t, l, write(5))
	expectPark(t, l, 1, read(128), api.ErrArg)
	expectPark(t, l, 3, read(5), api.ErrArg)
	expect(t, l, 3, nil, 1, 0, 2)
}

// P9.1

func TestNewOfEachNumber(t *testing.T) {
	for tasks := 1; tasks <= api.MaxTasks; tasks++ {
		l := lot(t, tasks)
		last := tasks - 1
		expect(t, l, tasks, nil)
		can(t, l, start, last)
		expect(t, l, tasks, nil, last)
		parks(t, l, write(127), last)
		expect(t, l, tasks, queues{write(127): {last}})
		for _, c := range calls {
			expectCall(t, l, c, tasks, api.ErrArg)
		}
		expectPark(t, l, tasks, read(0), api.ErrArg)
		refusesLeave(t, l, tasks, api.ErrArg)
	}
}

func TestNewOfNumbersThatAreNotAllowed(t *testing.T) {
	for _, tasks := range append([]int{0, api.MaxTasks + 1, api.MaxTasks + 2}, numbers...) {
		if l, e := park.New(tasks); l != nil || e != api.ErrArg {
			t.Errorf("New(%d) = %v, %d", tasks, l, e)
		}
	}
}

func TestLotsAreIndependent(t *testing.T) {
	a, b := lot(t, 2), lot(t, 2)
	can(t, a, start, 1, 0)
	parks(t, a, read(3), 1)
	expect(t, b, 2, nil)
	can(t, b, start, 0, 1)
	parks(t, b, read(3), 0, 1)
	wakes(t, b, read(3), 0)
	expect(t, a, 2, queues{read(3): {1}}, 0)
	expect(t, b, 2, queues{read(3): {1}}, 0)
	wakesAll(t, a, read(3), 1)
	expect(t, b, 2, queues{read(3): {1}}, 0)
}

// inEachState calls a function for a new lot of four tasks, once for each state of the task 1. The tasks 0 and 2 are ready, with a ready task 1 between them; 3 is parked, after a parked task 1.
func inEachState(t *testing.T, do func(l *park.Lot, s api.TaskState, q queues, run []int)) {
	t.Helper()
	for _, s := range []api.TaskState{idle, ready, parked} {
		l := lot(t, 4)
		q, run := queues{read(7): {3}}, []int{0, 2}
		can(t, l, start, 0, 1, 2, 3)
		switch s {
		case idle:
			can(t, l, finish, 1)
		case ready:
			run = []int{0, 1, 2}
		case parked:
			parks(t, l, read(7), 1)
			q[read(7)] = []int{1, 3}
		}
		parks(t, l, read(7), 3)
		expect(t, l, 4, q, run...)
		do(l, s, q, run)
	}
}

func TestStartFinishAndTurnInEachState(t *testing.T) {
	for _, c := range calls {
		inEachState(t, func(l *park.Lot, s api.TaskState, q queues, run []int) {
			if c.from != s {
				for range 2 {
					expectCall(t, l, c, 1, api.ErrState)
					expect(t, l, 4, q, run...)
				}
				return
			}
			can(t, l, c, 1)
			run = []int{0, 2}
			if c.to == ready {
				run = append(run, 1)
			}
			expect(t, l, 4, q, run...)
		})
	}
}

func TestNumbersThatNoTaskHas(t *testing.T) {
	inEachState(t, func(l *park.Lot, s api.TaskState, q queues, run []int) {
		for _, n := range append([]int{4, 5, 63, 64, 65}, numbers...) {
			for _, c := range calls {
				expectCall(t, l, c, n, api.ErrArg)
			}
			if s, e := l.State(n); s != 0 || e != api.ErrArg {
				t.Errorf("State(%d) = %d, %d", n, s, e)
			}
			expectPark(t, l, n, read(7), api.ErrArg)
			refusesLeave(t, l, n, api.ErrArg)
		}
		expect(t, l, 4, q, run...)
	})
}

func TestCopy(t *testing.T) {
	l := mixed(t)
	c := l.Copy()
	expectMixed(t, c)
	wakes(t, l, read(9), 6)
	leaves(t, l, 7, write(9))
	wakesAll(t, l, read(0), 1)
	parks(t, l, write(9), 8)
	can(t, l, start, 5)
	parks(t, l, write(0), 5)
	expect(t, l, 9, queues{write(9): {2, 8}, read(9): {0, 4}, write(0): {5}}, 3, 6, 7, 1)
	expectMixed(t, c)
	// The copy goes on from where it was made: who waits, where, and in which order.
	leaves(t, c, 0, read(9))
	parks(t, c, read(9), 3, 0)
	wakes(t, c, read(9), 6, 4)
	wakes(t, c, write(9), 2)
	wakesAll(t, c, write(9), 7)
	expect(t, c, 9, queues{read(9): {3, 0}, read(0): {1}}, 8, 6, 4, 2, 7)
	expect(t, l, 9, queues{write(9): {2, 8}, read(9): {0, 4}, write(0): {5}}, 3, 6, 7, 1)
	d := c.Copy()
	wakesAll(t, d, read(9), 3, 0)
	expect(t, d, 9, queues{read(0): {1}}, 8, 6, 4, 2, 7, 3, 0)
	expect(t, c, 9, queues{read(9): {3, 0}, read(0): {1}}, 8, 6, 4, 2, 7)
}

func TestCopyOfALotInWhichNobodyWaits(t *testing.T) {
	l := lot(t, 3)
	c := l.Copy()
	can(t, c, start, 2)
	parks(t, c, read(1), 2)
	expect(t, l, 3, nil)
	expect(t, c, 3, queues{read(1): {2}})
	wakes(t, c, read(1), 2)
	d := c.Copy()
	parks(t, c, read(1), 2)
	expect(t, d, 3, nil, 2)
	expectPark(t, d, 0, read(1), api.ErrState)
}

// P9.2

func TestParkInEachState(t *testing.T) {
	for _, at := range []api.Spot{read(7), write(7), read(8)} {
		inEachState(t, func(l *park.Lot, s api.TaskState, q queues, run []int) {
			if s != ready {
				for range 2 {
					expectPark(t, l, 1, at, api.ErrState)
					expect(t, l, 4, q, run...)
				}
				return
			}
			parks(t, l, at, 1)
			q[at] = append(q[at], 1)
			expect(t, l, 4, q, 0, 2)
			expectPark(t, l, 1, at, api.ErrState)
			expect(t, l, 4, q, 0, 2)
		})
	}
}

func TestLeaveAndWhereInEachState(t *testing.T) {
	inEachState(t, func(l *park.Lot, s api.TaskState, q queues, run []int) {
		for range 2 {
			if s == parked {
				expectWhere(t, l, 1, read(7))
			} else {
				refusesLeave(t, l, 1, api.ErrState)
			}
			expect(t, l, 4, q, run...)
		}
		if s != parked {
			return
		}
		leaves(t, l, 1, read(7))
		expect(t, l, 4, queues{read(7): {3}}, 0, 2, 1)
		refusesLeave(t, l, 1, api.ErrState)
		expect(t, l, 4, queues{read(7): {3}}, 0, 2, 1)
	})
}

func TestParkAtSpotsThatAreNotValid(t *testing.T) {
	inEachState(t, func(l *park.Lot, s api.TaskState, q queues, run []int) {
		for _, at := range invalid() {
			// The spot counts before the state of the task.
			for _, n := range []int{1, 0, 3, 4, -1} {
				expectPark(t, l, n, at, api.ErrArg)
			}
		}
		expect(t, l, 4, q, run...)
	})
}

func TestParkAtEachSpot(t *testing.T) {
	l := lot(t, 2)
	can(t, l, start, 0, 1)
	for _, at := range spots() {
		parks(t, l, at, 1, 0)
		expectWhere(t, l, 0, at)
		expectWhere(t, l, 1, at)
		expect(t, l, 2, queues{at: {1, 0}})
		leaves(t, l, 1, at)
		expect(t, l, 2, queues{at: {0}}, 1)
		wakes(t, l, at, 0)
		refusesWake(t, l, at, api.ErrNone)
	}
	expect(t, l, 2, nil, 1, 0)
}

func TestParkAgainIsTheLastOne(t *testing.T) {
	l := lot(t, 4)
	can(t, l, start, 0, 1, 2, 3)
	parks(t, l, read(1), 0, 1, 2)
	leaves(t, l, 0, read(1))
	parks(t, l, read(1), 3, 0)
	expect(t, l, 4, queues{read(1): {1, 2, 3, 0}})
	wakes(t, l, read(1), 1)
	parks(t, l, read(1), 1)
	expect(t, l, 4, queues{read(1): {2, 3, 0, 1}})
	leaves(t, l, 0, read(1))
	parks(t, l, write(1), 0)
	expect(t, l, 4, queues{read(1): {2, 3, 1}, write(1): {0}})
}

// leaveInEachOrder lets the tasks of a queue leave it in each order, and checks the lot after each one.
func leaveInEachOrder(t *testing.T, l *park.Lot, tasks int, at api.Spot, queue, run []int) {
	t.Helper()
	expect(t, l, tasks, queues{at: queue}, run...)
	for i, n := range queue {
		twin := l.Copy()
		leaves(t, twin, n, at)
		rest := slices.Delete(slices.Clone(queue), i, i+1)
		leaveInEachOrder(t, twin, tasks, at, rest, append(slices.Clone(run), n))
	}
	// Those that are left are woken in their order.
	wakes(t, l, at, queue...)
	expect(t, l, tasks, nil, append(slices.Clone(run), queue...)...)
}

func TestTasksLeaveAQueueInEachOrder(t *testing.T) {
	l := lot(t, 4)
	can(t, l, start, 0, 1, 2, 3)
	parks(t, l, write(127), 3, 1, 0, 2)
	leaveInEachOrder(t, l, 4, write(127), []int{3, 1, 0, 2}, nil)
}

// P9.3

func TestWakeIsTheFirstOne(t *testing.T) {
	l := mixed(t)
	wakes(t, l, read(9), 6)
	expect(t, l, 9, queues{write(9): {2, 7}, read(9): {0, 4}, read(0): {1}}, 3, 8, 6)
	wakes(t, l, read(9), 0, 4)
	expect(t, l, 9, queues{write(9): {2, 7}, read(0): {1}}, 3, 8, 6, 0, 4)
	wakes(t, l, write(9), 2)
	wakes(t, l, read(0), 1)
	wakes(t, l, write(9), 7)
	expect(t, l, 9, nil, 3, 8, 6, 0, 4, 2, 1, 7)
}

func TestWakeWhereNobodyWaits(t *testing.T) {
	l := mixed(t)
	for _, at := range spots() {
		if x, _ := l.Waiting(at); len(x) == 0 {
			refusesWake(t, l, at, api.ErrNone)
			wakesAll(t, l, at)
		}
	}
	expectMixed(t, l)
	wakes(t, l, read(0), 1)
	for range 2 {
		refusesWake(t, l, read(0), api.ErrNone)
		wakesAll(t, l, read(0))
		expect(t, l, 9, queues{write(9): {2, 7}, read(9): {6, 0, 4}}, 3, 8, 1)
	}
}

func TestWakeAllIsInOrder(t *testing.T) {
	l := mixed(t)
	wakesAll(t, l, read(9), 6, 0, 4)
	expect(t, l, 9, queues{write(9): {2, 7}, read(0): {1}}, 3, 8, 6, 0, 4)
	wakesAll(t, l, read(9))
	parks(t, l, read(9), 4, 3)
	wakesAll(t, l, read(9), 4, 3)
	wakesAll(t, l, write(9), 2, 7)
	wakesAll(t, l, read(0), 1)
	expect(t, l, 9, nil, 8, 6, 0, 4, 3, 2, 7, 1)
}

func TestAllTasksAtOneSpot(t *testing.T) {
	l := lot(t, api.MaxTasks)
	var order []int
	for i := range api.MaxTasks {
		n := (i*29 + 3) % api.MaxTasks
		can(t, l, start, n)
		order = append(order, n)
	}
	for range 5 {
		parks(t, l, read(64), order...)
		expect(t, l, api.MaxTasks, queues{read(64): order})
		wakesAll(t, l, read(64), order...)
		expect(t, l, api.MaxTasks, nil, order...)
		slices.Reverse(order)
		parks(t, l, write(64), order...)
		wakes(t, l, write(64), order...)
		refusesWake(t, l, write(64), api.ErrNone)
		expect(t, l, api.MaxTasks, nil, order...)
	}
}

func TestManyTurnsOfParkAndWake(t *testing.T) {
	// More tasks are parked at the spot than a queue of layer 6 takes, one after the other.
	l := lot(t, 2)
	can(t, l, start, 0, 1)
	parks(t, l, read(1), 0)
	for range 5000 {
		parks(t, l, read(1), 1)
		wakes(t, l, read(1), 0)
		parks(t, l, read(1), 0)
		leaves(t, l, 1, read(1))
	}
	expect(t, l, 2, queues{read(1): {0}}, 1)
}

func TestWaitingChangesNothing(t *testing.T) {
	l := mixed(t)
	for range 3 {
		expectMixed(t, l)
	}
}

func TestSpotsThatAreNotValid(t *testing.T) {
	l := mixed(t)
	for _, at := range invalid() {
		refusesWake(t, l, at, api.ErrArg)
		if x, e := l.WakeAll(at); len(x) != 0 || e != api.ErrArg {
			t.Errorf("WakeAll(%v) = %v, %d", at, x, e)
		}
		if x, e := l.Waiting(at); len(x) != 0 || e != api.ErrArg {
			t.Errorf("Waiting(%v) = %v, %d", at, x, e)
		}
	}
	expectMixed(t, l)
}

func TestListsShareNoMemory(t *testing.T) {
	l := mixed(t)
	a, _ := l.Waiting(read(9))
	b, _ := l.Waiting(read(9))
	run := l.Ready()
	a[0], run[0] = 8, 5
	a = append(a[:1], 7)
	expectMixed(t, l)
	woken, _ := l.WakeAll(read(9))
	woken[0], woken[1] = 1, 1
	expect(t, l, 9, queues{write(9): {2, 7}, read(0): {1}}, 3, 8, 6, 0, 4)
	wakesAll(t, l, write(9), 2, 7)
	if !slices.Equal(a, []int{8, 7}) || !slices.Equal(b, []int{6, 0, 4}) || !slices.Equal(run, []int{5, 8}) || !slices.Equal(woken, []int{1, 1, 4}) {
		t.Error("lists have changed:", a, b, run, woken)
	}
}

// P9.4

func TestEachSpotHasItsOwnQueue(t *testing.T) {
	for _, pair := range [][2]api.Spot{{read(0), write(0)}, {read(0), read(1)}, {write(0), read(1)}, {write(0), write(1)}, {read(127), write(127)}, {write(126), read(127)}, {read(1), read(65)}, {write(0), write(64)}} {
		for i, here := range pair {
			there := pair[1-i]
			l := lot(t, 6)
			can(t, l, start, 0, 1, 2, 3, 4, 5)
			parks(t, l, there, 1)
			parks(t, l, here, 0)
			parks(t, l, there, 3)
			parks(t, l, here, 2, 4)
			expect(t, l, 6, queues{here: {0, 2, 4}, there: {1, 3}}, 5)
			wakes(t, l, here, 0)
			leaves(t, l, 4, here)
			expect(t, l, 6, queues{here: {2}, there: {1, 3}}, 5, 0, 4)
			parks(t, l, here, 4)
			wakesAll(t, l, here, 2, 4)
			expect(t, l, 6, queues{there: {1, 3}}, 5, 0, 2, 4)
			refusesWake(t, l, here, api.ErrNone)
			wakes(t, l, there, 1, 3)
		}
	}
}

func TestATaskAtEachOfManySpots(t *testing.T) {
	l := lot(t, api.MaxTasks)
	q := queues{}
	for n := range api.MaxTasks {
		can(t, l, start, n)
		at := spots()[n*37%len(spots())]
		parks(t, l, at, n)
		q[at] = []int{n}
	}
	expect(t, l, api.MaxTasks, q)
	var run []int
	for i := range api.MaxTasks {
		n := (i*29 + 3) % api.MaxTasks
		at := spots()[n*37%len(spots())]
		if i%2 == 0 {
			wakes(t, l, at, n)
		} else {
			leaves(t, l, n, at)
		}
		run = append(run, n)
		delete(q, at)
		expectQueue(t, l, at)
	}
	expect(t, l, api.MaxTasks, q, run...)
}

// record is what a model knows of a task: its state, since when it has been at its place in the run set or in a queue, and where it is parked.
type record struct {
	state api.TaskState
	since int
	at    api.Spot
}

// model is a lot whose run set and queues are sorted whenever they are asked for.
type model struct {
	records []record
	now     int
}

// newModel returns a model of some idle tasks.
func newModel(tasks int) *model {
	m := &model{}
	for range tasks {
		m.records = append(m.records, record{at: nowhere})
	}
	return m
}

// all returns the tasks in a state at a place, in order.
func (m *model) all(s api.TaskState, at api.Spot) []int {
	var l []int
	for n, r := range m.records {
		if r.state == s && r.at == at {
			l = append(l, n)
		}
	}
	slices.SortFunc(l, func(a, b int) int { return m.records[a].since - m.records[b].since })
	return l
}

// set changes the state and the place of a task.
func (m *model) set(task int, s api.TaskState, at api.Spot) {
	m.now++
	m.records[task] = record{s, m.now, at}
}

// check checks that a lot is as its model, at some spots.
func (m *model) check(t *testing.T, l *park.Lot, at []api.Spot) {
	t.Helper()
	q := queues{}
	for _, r := range m.records {
		if r.state == parked {
			q[r.at] = m.all(parked, r.at)
		}
	}
	expectAt(t, l, len(m.records), at, q, m.all(ready, nowhere))
}

// calls lets a lot and its model carry out Start, Finish or Turn.
func (m *model) calls(t *testing.T, l *park.Lot, c call, task int) {
	t.Helper()
	if m.records[task].state != c.from {
		expectCall(t, l, c, task, api.ErrState)
		return
	}
	can(t, l, c, task)
	m.set(task, c.to, nowhere)
}

// parks lets a lot and its model carry out Park.
func (m *model) parks(t *testing.T, l *park.Lot, task int, at api.Spot) {
	t.Helper()
	if m.records[task].state != ready {
		expectPark(t, l, task, at, api.ErrState)
		return
	}
	parks(t, l, at, task)
	m.set(task, parked, at)
}

// leaves lets a lot and its model carry out Leave.
func (m *model) leaves(t *testing.T, l *park.Lot, task int) {
	t.Helper()
	if m.records[task].state != parked {
		refusesLeave(t, l, task, api.ErrState)
		return
	}
	leaves(t, l, task, m.records[task].at)
	m.set(task, ready, nowhere)
}

// wakes lets a lot and its model carry out Wake.
func (m *model) wakes(t *testing.T, l *park.Lot, at api.Spot) {
	t.Helper()
	queue := m.all(parked, at)
	if len(queue) == 0 {
		refusesWake(t, l, at, api.ErrNone)
		return
	}
	wakes(t, l, at, queue[0])
	m.set(queue[0], ready, nowhere)
}

// wakesAll lets a lot and its model carry out WakeAll.
func (m *model) wakesAll(t *testing.T, l *park.Lot, at api.Spot) {
	t.Helper()
	queue := m.all(parked, at)
	wakesAll(t, l, at, queue...)
	for _, n := range queue {
		m.set(n, ready, nowhere)
	}
}

// copies returns an independent lot and its model.
func (m *model) copies(l *park.Lot) (*park.Lot, *model) {
	return l.Copy(), &model{slices.Clone(m.records), m.now}
}

// histories lets a lot and its model do all things that can be done with some tasks and spots, some times after each other.
func histories(t *testing.T, l *park.Lot, m *model, at []api.Spot, left int) {
	t.Helper()
	m.check(t, l, at)
	if left == 0 || t.Failed() {
		return
	}
	branch := func(do func(l *park.Lot, m *model)) {
		twin, other := m.copies(l)
		do(twin, other)
		histories(t, twin, other, at, left-1)
	}
	for n := range m.records {
		for _, c := range calls {
			branch(func(l *park.Lot, m *model) { m.calls(t, l, c, n) })
		}
		for _, s := range at {
			branch(func(l *park.Lot, m *model) { m.parks(t, l, n, s) })
		}
		branch(func(l *park.Lot, m *model) { m.leaves(t, l, n) })
	}
	for _, s := range at {
		branch(func(l *park.Lot, m *model) { m.wakes(t, l, s) })
		branch(func(l *park.Lot, m *model) { m.wakesAll(t, l, s) })
	}
}

func TestAllShortHistoriesAgreeWithTheModel(t *testing.T) {
	histories(t, lot(t, 1), newModel(1), []api.Spot{read(0)}, 6)
	histories(t, lot(t, 1), newModel(1), []api.Spot{read(0), write(0)}, 5)
	l, m := lot(t, 2), newModel(2)
	m.calls(t, l, start, 1)
	m.calls(t, l, start, 0)
	histories(t, l, m, []api.Spot{write(2)}, 4)
	l, m = lot(t, 3), newModel(3)
	for n := range 3 {
		m.calls(t, l, start, n)
	}
	m.parks(t, l, 2, read(2))
	m.parks(t, l, 0, read(2))
	histories(t, l, m, []api.Spot{read(2), write(2)}, 3)
}

// step lets a lot and its model do something by chance.
func step(t *testing.T, random *rand.Rand, l *park.Lot, m *model, at []api.Spot) {
	t.Helper()
	n, s := random.Intn(len(m.records)), at[random.Intn(len(at))]
	switch kind := random.Intn(30); {
	case kind < 9:
		m.calls(t, l, start, n)
	case kind < 10:
		m.calls(t, l, finish, n)
	case kind < 12:
		m.calls(t, l, turn, n)
	case kind < 22:
		m.parks(t, l, n, s)
	case kind < 25:
		m.leaves(t, l, n)
	case kind < 28:
		m.wakes(t, l, s)
	case kind < 29:
		m.wakesAll(t, l, s)
	default:
		wrong := invalid()
		expectPark(t, l, n, wrong[random.Intn(len(wrong))], api.ErrArg)
		refusesWake(t, l, wrong[random.Intn(len(wrong))], api.ErrArg)
		refusesLeave(t, l, numbers[random.Intn(len(numbers))], api.ErrArg)
	}
}

func TestWalksAgreeWithTheModel(t *testing.T) {
	some := []api.Spot{read(0), write(0), read(1), write(127), read(127)}
	for seed, tasks := range []int{1, 2, 3, 5, 9, 31, 63, 64} {
		for _, at := range [][]api.Spot{some[:1], some, spots()} {
			random := rand.New(rand.NewSource(int64(seed)))
			l, m := lot(t, tasks), newModel(tasks)
			for i := range 500 {
				step(t, random, l, m, at)
				m.check(t, l, spots())
				if i%100 == 50 {
					l, m = m.copies(l)
				}
				if t.Failed() {
					t.Fatalf("walk %d at %d spots: step %d", seed, len(at), i)
				}
			}
		}
	}
}

// Nil and zero objects, and P1

func TestLotsThatAreNilOrZero(t *testing.T) {
	var none *park.Lot
	for i, l := range []*park.Lot{none, {}, new(park.Lot)} {
		for _, at := range append(invalid(), read(0), write(127)) {
			for _, n := range append([]int{0, 1, 63, 64}, numbers...) {
				expectPark(t, l, n, at, api.ErrNil)
			}
			refusesWake(t, l, at, api.ErrNil)
			if x, e := l.WakeAll(at); len(x) != 0 || e != api.ErrNil {
				t.Errorf("%d: WakeAll(%v) = %v, %d", i, at, x, e)
			}
			if x, e := l.Waiting(at); len(x) != 0 || e != api.ErrNil {
				t.Errorf("%d: Waiting(%v) = %v, %d", i, at, x, e)
			}
		}
		for _, n := range append([]int{0, 1, 63, 64}, numbers...) {
			for _, c := range calls {
				expectCall(t, l, c, n, api.ErrNil)
			}
			refusesLeave(t, l, n, api.ErrNil)
			if s, e := l.State(n); s != 0 || e != api.ErrNil {
				t.Errorf("%d: State(%d) = %d, %d", i, n, s, e)
			}
		}
		if l.Len() != 0 || l.Copy() != nil || len(l.Ready()) != 0 {
			t.Errorf("%d: Len() = %d, Copy() = %v, Ready() = %v", i, l.Len(), l.Copy(), l.Ready())
		}
	}
}

func TestAStructThatIsCopiedIsTheSameLot(t *testing.T) {
	l := lot(t, 4)
	twin := *l
	can(t, l, start, 3, 1)
	can(t, &twin, start, 0)
	parks(t, &twin, read(2), 3)
	parks(t, l, read(2), 0)
	parks(t, l, write(2), 1)
	expectPark(t, &twin, 1, read(2), api.ErrState)
	for _, x := range []*park.Lot{l, &twin} {
		expect(t, x, 4, queues{read(2): {3, 0}, write(2): {1}})
	}
	leaves(t, &twin, 3, read(2))
	wakes(t, l, read(2), 0)
	wakesAll(t, &twin, write(2), 1)
	for _, x := range []*park.Lot{l, &twin} {
		expect(t, x, 4, nil, 3, 0, 1)
	}
}
