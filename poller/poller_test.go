package poller_test

import (
	"fmt"
	"math"
	"math/rand"
	"slices"
	"testing"

	"aqueduct/api"
	"aqueduct/poller"
)

// numbers are numbers that no task has, whatever the number of tasks is.
var numbers = []int{-1, -2, -api.MaxTasks, math.MinInt, api.MaxTasks, api.MaxTasks + 1, 127, 128, 255, 256, 1 << 16, 1 << 32, 1<<32 + 1, -1 << 32, math.MaxInt}

// directions are numbers that no direction has.
var directions = []api.Dir{-1, -2, 2, 3, 127, 128, 256, 257, 1 << 32, 1<<32 + 1, -1 << 32, math.MinInt, math.MaxInt}

// strangers are names that no descriptor has in these tests.
var strangers = []api.FD{
	name(-1, 0), name(-1, -1), name(math.MinInt, 0), name(math.MaxInt, 0), name(api.MaxFiles, 0), name(api.MaxFiles+1, 0), name(1<<32, 0), name(1<<32+1, 0), name(-1<<32, 0),
	name(0, -1), name(1, -1), name(0, math.MinInt), name(0, math.MaxInt), name(1, 1<<16), name(0, 1<<32), name(0, 1<<32+1), name(math.MaxInt, math.MaxInt),
}

// made returns a poller of idle tasks.
func made(t *testing.T, tasks int, now api.Time) *poller.Poller {
	t.Helper()
	p, e := poller.New(tasks, now)
	if p == nil || e != api.OK {
		t.Fatalf("New(%d, %d) = %v, %d", tasks, now, p, e)
	}
	return p
}

// list returns a list of tasks.
func list(tasks ...int) []int { return tasks }

// gives checks the results of a call.
func gives(t *testing.T, p *poller.Poller, c call, want ...any) {
	t.Helper()
	if got := c.do(p); got != fmt.Sprint(want...) {
		t.Errorf("%s = %s, not %s", c.name, got, fmt.Sprint(want...))
	}
}

// refuses checks that calls return an error, and zero values.
func refuses(t *testing.T, p *poller.Poller, want api.Errno, calls ...call) {
	t.Helper()
	for _, c := range calls {
		if got := c.do(p); got != c.zero+fmt.Sprint(want) {
			t.Errorf("%s = %s, not %s%d", c.name, got, c.zero, want)
		}
	}
}

// can checks that calls that return a code only succeed, one after the other.
func can(t *testing.T, p *poller.Poller, calls ...call) {
	t.Helper()
	refuses(t, p, api.OK, calls...)
}

// starts starts tasks, one after the other.
func starts(t *testing.T, p *poller.Poller, tasks ...int) {
	t.Helper()
	for _, task := range tasks {
		can(t, p, start(task))
	}
}

// waits lets tasks wait at a spot, one after the other.
func waits(t *testing.T, p *poller.Poller, at spot, tasks ...int) {
	t.Helper()
	for _, task := range tasks {
		can(t, p, wait(task, at))
	}
}

// opened opens descriptors and returns their names, which are those with the numbers from 0 on.
func opened(t *testing.T, p *poller.Poller, values ...int) []api.FD {
	t.Helper()
	var l []api.FD
	for i, v := range values {
		gives(t, p, open(v), name(i, 0), api.OK)
		l = append(l, name(i, 0))
	}
	return l
}

// mixed returns a poller of nine tasks at 20, of which 8 was never started. Two descriptors are open, one of them with a number that had been given before; one more was closed. There are tasks that wait, that were woken for each reason, and that were not woken, and deadlines that have passed, and that have not.
func mixed(t *testing.T) *poller.Poller {
	t.Helper()
	p := made(t, 9, 10)
	l := opened(t, p, 70, 71, 72)
	starts(t, p, 0, 1, 2, 3, 4, 5, 6, 7)
	gives(t, p, closes(l[0]), list(), api.OK)
	gives(t, p, open(73), name(0, 1), api.OK)
	a, b, c := name(0, 1), l[1], l[2]
	waits(t, p, read(a), 6, 0, 4)
	waits(t, p, write(a), 2)
	waits(t, p, write(b), 7, 5)
	waits(t, p, read(c), 1)
	gives(t, p, deadline(write(b), 15), list(), api.OK)
	gives(t, p, advance(20), list(7, 5), api.OK)
	gives(t, p, deadline(write(a), 30), list(), api.OK)
	gives(t, p, deadline(read(b), 25), list(), api.OK)
	gives(t, p, deadline(read(c), 24), list(), api.OK)
	gives(t, p, signal(read(a)), 6, api.OK)
	can(t, p, finish(5))
	gives(t, p, closes(c), list(1), api.OK)
	expect(t, p, mixedModel())
	return p
}

// mixedModel returns what can be seen of the poller that mixed returns.
func mixedModel() *model {
	return &model{
		tasks: 9, now: 20, run: list(3, 7, 6, 1),
		why:   map[int]api.Reason{7: api.ReasonTimeout, 6: api.ReasonReady, 1: api.ReasonClosed},
		waits: map[spot][]int{read(name(0, 1)): {0, 4}, write(name(0, 1)): {2}},
		files: map[api.FD]file{name(0, 1): {73, [2]api.Time{never, 30}}, name(1, 0): {71, [2]api.Time{25, 15}}},
		gens:  map[int]int{0: 1, 2: 1},
	}
}

// The examples

func TestExamples(t *testing.T) {
	p := made(t, 3, 10)
	x := name(0, 0)
	gives(t, p, open(7), x, api.OK)
	can(t, p, start(0), start(1), start(2), wait(0, read(x)), wait(1, write(x)), wait(2, read(x)))
	gives(t, p, deadline(read(x), 15), list(), api.OK)
	gives(t, p, advance(14), list(), api.OK)
	gives(t, p, signal(read(x)), 0, api.OK)
	gives(t, p, reason(0), api.ReasonReady, api.OK)
	gives(t, p, advance(15), list(2), api.OK)
	gives(t, p, reason(2), api.ReasonTimeout, api.OK)
	refuses(t, p, api.ErrTimeout, check(read(x)))
	gives(t, p, closes(x), list(1), api.OK)
	gives(t, p, reason(1), api.ReasonClosed, api.OK)
	refuses(t, p, api.ErrNone, check(read(x)))
	y := name(0, 1)
	gives(t, p, open(8), y, api.OK)
	can(t, p, check(read(y)))
	refuses(t, p, api.ErrState, where(1))
	expect(t, p, &model{
		tasks: 3, now: 15, run: list(0, 2, 1),
		why:   map[int]api.Reason{0: api.ReasonReady, 2: api.ReasonTimeout, 1: api.ReasonClosed},
		files: map[api.FD]file{y: {8, none}},
		gens:  map[int]int{0: 1},
	})
}

// P11.1

func TestNewOfEachNumber(t *testing.T) {
	for tasks := 1; tasks <= api.MaxTasks; tasks++ {
		for _, now := range []api.Time{0, 10, last} {
			p := made(t, tasks, now)
			expect(t, p, newModel(tasks, now))
			refuses(t, p, api.ErrArg, ofTask(tasks)...)
			starts(t, p, tasks-1)
			expect(t, p, &model{tasks: tasks, now: now, run: list(tasks - 1)})
		}
	}
}

func TestNewOfEachTime(t *testing.T) {
	for _, now := range []api.Time{0, 1, 2, 1 << 16, 1 << 32, 1<<63 - 1, 1 << 63, last - 1, last} {
		expect(t, made(t, 2, now), newModel(2, now))
	}
}

func TestNewOfWhatIsNotAllowed(t *testing.T) {
	for _, now := range []api.Time{0, 10, last, never} {
		for _, tasks := range append(list(0, 65, 66), numbers...) {
			if tasks == api.MaxTasks {
				continue
			}
			if p, e := poller.New(tasks, now); p != nil || e != api.ErrArg {
				t.Errorf("New(%d, %d) = %v, %d", tasks, now, p, e)
			}
		}
	}
	for _, tasks := range []int{1, 7, 64} {
		if p, e := poller.New(tasks, never); p != nil || e != api.ErrArg {
			t.Errorf("New(%d, never) = %v, %d", tasks, p, e)
		}
	}
}

func TestPollersAreIndependent(t *testing.T) {
	p, q := made(t, 2, 10), made(t, 2, 10)
	x := opened(t, p, 5)[0]
	starts(t, p, 1)
	waits(t, p, read(x), 1)
	gives(t, p, deadline(read(x), 12), list(), api.OK)
	expect(t, q, newModel(2, 10))
	gives(t, q, advance(11), list(), api.OK)
	expect(t, p, &model{tasks: 2, now: 10, waits: map[spot][]int{read(x): {1}}, files: map[api.FD]file{x: {5, [2]api.Time{12, never}}}})
}

func TestValuesAreAnyNumbers(t *testing.T) {
	p := made(t, 1, 0)
	m := newModel(1, 0)
	for i, v := range []int{0, -1, 1, 7, 7, math.MinInt, math.MaxInt, 1 << 40, -1 << 40, 0} {
		gives(t, p, open(v), name(i, 0), api.OK)
		gives(t, p, value(name(i, 0)), v, api.OK)
		m.files[name(i, 0)] = file{v, none}
	}
	expect(t, p, m)
}

func TestOpenGivesTheLowestFreeNumber(t *testing.T) {
	p := made(t, 1, 0)
	l := opened(t, p, 10, 11, 12, 13)
	for _, n := range []int{2, 0, 3} {
		gives(t, p, closes(l[n]), list(), api.OK)
	}
	gives(t, p, open(20), name(0, 1), api.OK)
	gives(t, p, open(21), name(2, 1), api.OK)
	gives(t, p, closes(name(0, 1)), list(), api.OK)
	gives(t, p, open(22), name(0, 2), api.OK)
	gives(t, p, open(23), name(3, 1), api.OK)
	gives(t, p, open(24), name(4, 0), api.OK)
	expect(t, p, &model{tasks: 1, files: map[api.FD]file{name(0, 2): {22, none}, name(1, 0): {11, none}, name(2, 1): {21, none}, name(3, 1): {23, none}, name(4, 0): {24, none}}, gens: map[int]int{0: 2, 2: 1, 3: 1}})
}

func TestOpenWithoutRoom(t *testing.T) {
	p := made(t, 2, 5)
	m := newModel(2, 5)
	starts(t, p, 1)
	m.run = list(1)
	for n := range api.MaxFiles {
		gives(t, p, open(n), name(n, 0), api.OK)
		m.files[name(n, 0)] = file{n, none}
	}
	for _, v := range []int{0, 1, -1} {
		refuses(t, p, api.ErrFull, open(v))
	}
	expect(t, p, m)
	for _, n := range []int{127, 0, 64} {
		waits(t, p, write(name(n, 0)), 1)
		gives(t, p, closes(name(n, 0)), list(1), api.OK)
		gives(t, p, open(-n), name(n, 1), api.OK)
		refuses(t, p, api.ErrFull, open(1))
		delete(m.files, name(n, 0))
		m.files[name(n, 1)] = file{-n, none}
		m.gens[n] = 1
	}
	m.why[1] = api.ReasonClosed
	expect(t, p, m)
}

func TestNamesOfNoDescriptor(t *testing.T) {
	p := mixed(t)
	for _, fd := range append([]api.FD{name(0, 0), name(0, 2), name(1, 1), name(2, 0), name(2, 1), name(3, 0), name(127, 0)}, strangers...) {
		refuses(t, p, api.ErrNone, ofName(fd)...)
		for _, at := range []spot{read(fd), write(fd)} {
			refuses(t, p, api.ErrNone, ofSpot(at)...)
			for task := range 9 {
				refuses(t, p, api.ErrNone, wait(task, at))
			}
		}
	}
	expect(t, p, mixedModel())
}

func TestCopy(t *testing.T) {
	p := mixed(t)
	c := p.Copy()
	expect(t, c, mixedModel())
	a, b := name(0, 1), name(1, 0)
	waits(t, p, read(b), 1, 3)
	gives(t, p, signalAll(read(a)), list(0, 4), api.OK)
	gives(t, p, advance(25), list(1, 3), api.OK)
	gives(t, p, closes(a), list(2), api.OK)
	gives(t, p, open(80), name(0, 2), api.OK)
	gives(t, p, deadline(write(b), never), list(), api.OK)
	starts(t, p, 8)
	after := &model{
		tasks: 9, now: 25, run: list(7, 6, 0, 4, 1, 3, 2, 8),
		why:   map[int]api.Reason{7: api.ReasonTimeout, 6: api.ReasonReady, 0: api.ReasonReady, 4: api.ReasonReady, 1: api.ReasonTimeout, 3: api.ReasonTimeout, 2: api.ReasonClosed},
		files: map[api.FD]file{name(0, 2): {80, none}, b: {71, [2]api.Time{25, never}}},
		gens:  map[int]int{0: 2, 2: 1},
	}
	expect(t, p, after)
	expect(t, c, mixedModel())
	// The copy goes on from where it was made.
	can(t, c, turn(3), finish(7), start(5))
	gives(t, c, signal(read(a)), 0, api.OK)
	gives(t, c, deadline(read(b), 22), list(), api.OK)
	waits(t, c, read(b), 0)
	gives(t, c, advance(23), list(0), api.OK)
	gives(t, c, open(90), name(2, 1), api.OK)
	expect(t, c, &model{
		tasks: 9, now: 23, run: list(6, 1, 3, 5, 0),
		why:   map[int]api.Reason{6: api.ReasonReady, 1: api.ReasonClosed, 0: api.ReasonTimeout},
		waits: map[spot][]int{read(a): {4}, write(a): {2}},
		files: map[api.FD]file{a: {73, [2]api.Time{never, 30}}, b: {71, [2]api.Time{22, 15}}, name(2, 1): {90, none}},
		gens:  map[int]int{0: 1, 2: 1},
	})
	expect(t, p, after)
}

func TestCopyOfANewPoller(t *testing.T) {
	p := made(t, 3, 7)
	c := p.Copy()
	starts(t, c, 2)
	gives(t, c, open(1), name(0, 0), api.OK)
	waits(t, c, write(name(0, 0)), 2)
	gives(t, c, advance(9), list(), api.OK)
	expect(t, p, newModel(3, 7))
	starts(t, p, 2)
	gives(t, c, closes(name(0, 0)), list(2), api.OK)
	expect(t, p, &model{tasks: 3, now: 7, run: list(2)})
}

// P11.2

// situation is what a task can be: idle, ready for a reason, or parked in a direction.
type situation struct {
	name  string
	state api.TaskState
	why   api.Reason
	dir   api.Dir
}

var situations = []situation{
	{name: "idle", state: api.TaskIdle},
	{name: "idle again", state: api.TaskIdle, why: api.ReasonTimeout},
	{name: "not woken", state: api.TaskReady},
	{name: "signalled", state: api.TaskReady, why: api.ReasonReady},
	{name: "too late", state: api.TaskReady, why: api.ReasonTimeout},
	{name: "closed", state: api.TaskReady, why: api.ReasonClosed},
	{name: "reading", state: api.TaskParked, dir: in},
	{name: "writing", state: api.TaskParked, dir: out},
	{name: "reading again", state: api.TaskParked, why: api.ReasonClosed, dir: in},
}

// wakes lets a ready task wait for a descriptor of its own, and be woken for a reason.
func wakes(t *testing.T, p *poller.Poller, task int, why api.Reason) {
	t.Helper()
	if why == api.ReasonNone {
		return
	}
	fd, e := p.Open(99)
	if e != api.OK {
		t.Fatal(e)
	}
	at := write(fd)
	waits(t, p, at, task)
	switch why {
	case api.ReasonReady:
		gives(t, p, signal(at), task, api.OK)
	case api.ReasonTimeout:
		gives(t, p, deadline(at, 0), list(task), api.OK)
	}
	left := list()
	if why == api.ReasonClosed {
		left = list(task)
	}
	gives(t, p, closes(fd), left, api.OK)
}

// inEachSituation calls a function for a new poller of four tasks at 10, with one descriptor, for each situation of the task 1. The tasks 0 and 2 are ready, with a ready task 1 after them; 3 waits to read, before a parked task 1.
func inEachSituation(t *testing.T, do func(p *poller.Poller, s situation, m *model)) {
	t.Helper()
	for _, s := range situations {
		p := made(t, 4, 10)
		x := opened(t, p, 50)[0]
		m := &model{tasks: 4, now: 10, run: list(0, 2), waits: map[spot][]int{read(x): {3}}, files: map[api.FD]file{x: {50, none}}, gens: map[int]int{1: 0}}
		starts(t, p, 0, 2, 3)
		waits(t, p, read(x), 3)
		if s.name != "idle" {
			starts(t, p, 1)
			wakes(t, p, 1, s.why)
		}
		if s.why != api.ReasonNone {
			m.gens[1]++
		}
		switch {
		case s.state == api.TaskReady:
			m.run, m.why = list(0, 2, 1), map[int]api.Reason{1: s.why}
		case s.state == api.TaskParked:
			at := spot{x, s.dir}
			waits(t, p, at, 1)
			m.waits[at] = append(m.waits[at], 1)
		case s.name == "idle again":
			can(t, p, finish(1))
		}
		expect(t, p, m)
		do(p, s, m)
		if t.Failed() {
			t.Fatal(s.name)
		}
	}
}

func TestStartInEachSituation(t *testing.T) {
	inEachSituation(t, func(p *poller.Poller, s situation, m *model) {
		if s.state == api.TaskIdle {
			can(t, p, start(1))
			// The reason from before does not count any more.
			m.run, m.why = list(0, 2, 1), nil
			expect(t, p, m)
		}
		for range 2 {
			refuses(t, p, api.ErrState, start(1))
			expect(t, p, m)
		}
	})
}

func TestFinishInEachSituation(t *testing.T) {
	inEachSituation(t, func(p *poller.Poller, s situation, m *model) {
		if s.state == api.TaskReady {
			can(t, p, finish(1))
			m.run = list(0, 2)
			expect(t, p, m)
		}
		for range 2 {
			refuses(t, p, api.ErrState, finish(1))
			expect(t, p, m)
		}
	})
}

func TestTurnInEachSituation(t *testing.T) {
	inEachSituation(t, func(p *poller.Poller, s situation, m *model) {
		if s.state != api.TaskReady {
			refuses(t, p, api.ErrState, turn(1))
			expect(t, p, m)
			return
		}
		can(t, p, turn(2), turn(1))
		m.run = list(0, 2, 1)
		expect(t, p, m)
		can(t, p, turn(0))
		m.run = list(2, 1, 0)
		expect(t, p, m)
	})
}

func TestReasonStateAndWhereInEachSituation(t *testing.T) {
	inEachSituation(t, func(p *poller.Poller, s situation, m *model) {
		gives(t, p, state(1), s.state, api.OK)
		switch s.state {
		case api.TaskIdle:
			refuses(t, p, api.ErrState, reason(1), where(1))
		case api.TaskReady:
			gives(t, p, reason(1), s.why, api.OK)
			refuses(t, p, api.ErrState, where(1))
		case api.TaskParked:
			gives(t, p, where(1), name(0, 0), s.dir, api.OK)
			refuses(t, p, api.ErrState, reason(1))
		}
		expect(t, p, m)
	})
}

func TestNumbersThatNoTaskHas(t *testing.T) {
	inEachSituation(t, func(p *poller.Poller, s situation, m *model) {
		for _, n := range append(list(4, 5, 63), numbers...) {
			refuses(t, p, api.ErrArg, ofTask(n)...)
			refuses(t, p, api.ErrArg, wait(n, read(name(0, 0))), wait(n, write(name(0, 0))))
		}
		expect(t, p, m)
	})
}

func TestReasonIsThatOfTheLastTime(t *testing.T) {
	for _, first := range []api.Reason{0, 1, 2, 3} {
		for _, second := range []api.Reason{1, 2, 3} {
			p := made(t, 2, 10)
			starts(t, p, 0, 1)
			wakes(t, p, 1, first)
			gives(t, p, reason(1), first, api.OK)
			can(t, p, turn(1))
			gives(t, p, reason(1), first, api.OK)
			wakes(t, p, 1, second)
			gives(t, p, reason(1), second, api.OK)
			can(t, p, turn(0), turn(1))
			gives(t, p, reason(1), second, api.OK)
			gives(t, p, reason(0), api.ReasonNone, api.OK)
			can(t, p, finish(1), start(1))
			gives(t, p, reason(1), api.ReasonNone, api.OK)
			wakes(t, p, 0, first)
			gives(t, p, reason(1), api.ReasonNone, api.OK)
		}
	}
}

func TestACallThatIsRefusedKeepsTheReason(t *testing.T) {
	p := made(t, 2, 10)
	x := opened(t, p, 1)[0]
	starts(t, p, 1)
	waits(t, p, read(x), 1)
	gives(t, p, deadline(read(x), 10), list(1), api.OK)
	refuses(t, p, api.ErrState, start(1), where(1))
	refuses(t, p, api.ErrTimeout, wait(1, read(x)))
	refuses(t, p, api.ErrArg, wait(1, spot{x, 2}))
	refuses(t, p, api.ErrNone, wait(1, read(name(0, 1))), signal(read(x)))
	gives(t, p, signalAll(read(x)), list(), api.OK)
	gives(t, p, reason(1), api.ReasonTimeout, api.OK)
}

func TestWhereTellsTheWholeName(t *testing.T) {
	p := made(t, 4, 0)
	starts(t, p, 0, 1, 2, 3)
	for gen := range 20 {
		for n := range 3 {
			gives(t, p, open(n), name(n, gen), api.OK)
		}
		waits(t, p, read(name(2, gen)), 2)
		waits(t, p, write(name(2, gen)), 0)
		waits(t, p, write(name(1, gen)), 1)
		gives(t, p, where(2), name(2, gen), in, api.OK)
		gives(t, p, where(0), name(2, gen), out, api.OK)
		gives(t, p, where(1), name(1, gen), out, api.OK)
		refuses(t, p, api.ErrState, where(3))
		for n := range 3 {
			gives(t, p, closes(name(n, gen)), [][]int{{}, {1}, {2, 0}}[n], api.OK)
		}
		refuses(t, p, api.ErrState, where(0), where(1), where(2))
	}
}

func TestWhereAtEachSpot(t *testing.T) {
	p := made(t, 2, 0)
	m := newModel(2, 0)
	starts(t, p, 1)
	for n := range api.MaxFiles {
		gives(t, p, open(n), name(n, 0), api.OK)
		m.files[name(n, 0)] = file{n, none}
	}
	for i := range api.MaxFiles {
		fd := name((i*37+5)%api.MaxFiles, 0)
		for _, at := range []spot{read(fd), write(fd)} {
			waits(t, p, at, 1)
			gives(t, p, where(1), fd, at.dir, api.OK)
			gives(t, p, signalAll(at), list(1), api.OK)
		}
	}
	m.run, m.why[1] = list(1), api.ReasonReady
	expect(t, p, m)
}

// P11.3

func TestCheckAtEachTime(t *testing.T) {
	for _, at := range []spot{read(name(1, 0)), write(name(1, 0))} {
		other := spot{at.fd, 1 - at.dir}
		p := made(t, 1, 0)
		opened(t, p, 1, 2)
		starts(t, p, 0)
		gives(t, p, deadline(at, 5), list(), api.OK)
		for now := range api.Time(9) {
			gives(t, p, advance(now), list(), api.OK)
			want := api.OK
			if now >= 5 {
				want = api.ErrTimeout
			}
			refuses(t, p, want, check(at))
			can(t, p, check(other), check(read(name(0, 0))), check(write(name(0, 0))))
			twin := p.Copy()
			refuses(t, twin, want, wait(0, at))
			can(t, p.Copy(), wait(0, other))
		}
		gives(t, p, deadline(at, 9), list(), api.OK)
		can(t, p, check(at), wait(0, at))
	}
}

func TestCheckChangesNothing(t *testing.T) {
	p := mixed(t)
	for range 3 {
		can(t, p, check(read(name(0, 1))), check(write(name(0, 1))), check(read(name(1, 0))))
		refuses(t, p, api.ErrTimeout, check(write(name(1, 0))))
		expect(t, p, mixedModel())
	}
}

func TestWaitIsTheLastOne(t *testing.T) {
	p := made(t, 5, 0)
	x := opened(t, p, 1)[0]
	starts(t, p, 0, 1, 2, 3, 4)
	waits(t, p, read(x), 3, 0, 4)
	waits(t, p, write(x), 2, 1)
	m := &model{tasks: 5, waits: map[spot][]int{read(x): {3, 0, 4}, write(x): {2, 1}}, files: map[api.FD]file{x: {1, none}}}
	expect(t, p, m)
	gives(t, p, signal(read(x)), 3, api.OK)
	waits(t, p, read(x), 3)
	gives(t, p, signal(write(x)), 2, api.OK)
	waits(t, p, read(x), 2)
	m.waits = map[spot][]int{read(x): {0, 4, 3, 2}, write(x): {1}}
	expect(t, p, m)
}

func TestWaitInEachSituation(t *testing.T) {
	for _, dir := range []api.Dir{in, out} {
		inEachSituation(t, func(p *poller.Poller, s situation, m *model) {
			at := spot{name(0, 0), dir}
			if s.state == api.TaskReady {
				waits(t, p, at, 1)
				m.run, m.waits[at] = list(0, 2), append(m.waits[at], 1)
				expect(t, p, m)
			}
			for range 2 {
				refuses(t, p, api.ErrState, wait(1, at))
				expect(t, p, m)
			}
		})
	}
}

// Of several things that are wrong with a call of Wait, the first one counts.
func TestFirstFlawOfWait(t *testing.T) {
	for flaws := range 32 {
		p := made(t, 3, 10)
		x := opened(t, p, 1)[0]
		starts(t, p, 0, 1)
		gives(t, p, deadline(read(x), 20), list(), api.OK)
		waits(t, p, read(x), 1)
		want := api.OK
		task, at := 0, read(x)
		if flaws&1 != 0 {
			gives(t, p, advance(20), list(1), api.OK)
			want = api.ErrTimeout
		}
		if flaws&2 != 0 {
			task, want = 2, api.ErrState
		}
		if flaws&4 != 0 {
			at.fd, want = name(0, 1), api.ErrNone
		}
		if flaws&8 != 0 {
			at.dir, want = 2, api.ErrArg
		}
		if flaws&16 != 0 {
			task, want = 3, api.ErrArg
		}
		before := fmt.Sprint(p.Ready(), p.Next())
		refuses(t, p, want, wait(task, at))
		if want != api.OK && fmt.Sprint(p.Ready(), p.Next()) != before {
			t.Errorf("Wait(%d, %v) has changed %s", task, at, before)
		}
	}
}

// The same for a task that is parked instead of idle.
func TestFirstFlawOfWaitOfAParkedTask(t *testing.T) {
	p := mixed(t)
	refuses(t, p, api.ErrState, wait(0, read(name(0, 1))), wait(0, write(name(1, 0))), wait(2, write(name(0, 1))), wait(8, write(name(1, 0))))
	refuses(t, p, api.ErrNone, wait(0, read(name(0, 0))), wait(2, write(name(2, 0))))
	refuses(t, p, api.ErrArg, wait(0, spot{name(0, 0), -1}), wait(9, read(name(0, 0))), wait(-1, spot{name(0, 0), 2}))
	refuses(t, p, api.ErrTimeout, wait(3, write(name(1, 0))))
	expect(t, p, mixedModel())
}

func TestDirectionsThatAreNone(t *testing.T) {
	p := mixed(t)
	for _, dir := range directions {
		for _, fd := range append([]api.FD{name(0, 1), name(1, 0), name(0, 0), name(2, 1)}, strangers...) {
			refuses(t, p, api.ErrArg, ofSpot(spot{fd, dir})...)
			for _, task := range []int{0, 3, 5, 8, 9, -1} {
				refuses(t, p, api.ErrArg, wait(task, spot{fd, dir}))
			}
		}
	}
	expect(t, p, mixedModel())
}

// P11.4

func TestSignal(t *testing.T) {
	p := made(t, 6, 0)
	x := opened(t, p, 1, 2)
	starts(t, p, 0, 1, 2, 3, 4, 5)
	waits(t, p, read(x[0]), 4, 1)
	waits(t, p, write(x[0]), 2)
	waits(t, p, read(x[1]), 0, 3)
	m := &model{tasks: 6, run: list(5), why: map[int]api.Reason{}, waits: map[spot][]int{read(x[0]): {4, 1}, write(x[0]): {2}, read(x[1]): {0, 3}}, files: map[api.FD]file{x[0]: {1, none}, x[1]: {2, none}}}
	refuses(t, p, api.ErrNone, signal(write(x[1])))
	expect(t, p, m)
	for _, c := range []struct {
		at   spot
		want int
		left []int
	}{{read(x[0]), 4, list(1)}, {read(x[1]), 0, list(3)}, {read(x[0]), 1, nil}, {write(x[0]), 2, nil}, {read(x[1]), 3, nil}} {
		gives(t, p, signal(c.at), c.want, api.OK)
		m.run, m.why[c.want], m.waits[c.at] = append(m.run, c.want), api.ReasonReady, c.left
		expect(t, p, m)
		if c.left == nil {
			refuses(t, p, api.ErrNone, signal(c.at))
			expect(t, p, m)
		}
	}
}

func TestSignalAll(t *testing.T) {
	p := mixed(t)
	m := mixedModel()
	a := name(0, 1)
	waits(t, p, read(a), 7, 3)
	gives(t, p, signalAll(read(a)), list(0, 4, 7, 3), api.OK)
	m.run = list(6, 1, 0, 4, 7, 3)
	delete(m.waits, read(a))
	for _, n := range []int{0, 4, 7, 3} {
		m.why[n] = api.ReasonReady
	}
	expect(t, p, m)
	gives(t, p, signalAll(read(a)), list(), api.OK)
	gives(t, p, signalAll(read(name(1, 0))), list(), api.OK)
	expect(t, p, m)
	gives(t, p, signalAll(write(a)), list(2), api.OK)
	m.run, m.why[2] = append(m.run, 2), api.ReasonReady
	delete(m.waits, write(a))
	expect(t, p, m)
}

func TestSignalWhereTheDeadlineHasPassed(t *testing.T) {
	p := mixed(t)
	at := write(name(1, 0))
	for range 2 {
		// The deadline counts only for those who want to wait.
		refuses(t, p, api.ErrNone, signal(at))
		gives(t, p, signalAll(at), list(), api.OK)
	}
	expect(t, p, mixedModel())
}

func TestAllTasksAtOneSpot(t *testing.T) {
	p := made(t, api.MaxTasks, 0)
	for n := range api.MaxFiles {
		gives(t, p, open(n), name(n, 0), api.OK)
	}
	var order []int
	for i := range api.MaxTasks {
		order = append(order, (i*29+3)%api.MaxTasks)
	}
	starts(t, p, order...)
	at := write(name(api.MaxFiles-1, 0))
	for range 3 {
		waits(t, p, at, order...)
		gives(t, p, ready(), list())
		for _, n := range order[:20] {
			gives(t, p, signal(at), n, api.OK)
		}
		gives(t, p, signalAll(at), order[20:], api.OK)
		gives(t, p, ready(), order)
		slices.Reverse(order)
	}
	waits(t, p, at, order...)
	gives(t, p, deadline(at, 0), order, api.OK)
	for n := range api.MaxTasks {
		gives(t, p, reason(n), api.ReasonTimeout, api.OK)
	}
}

// P11.5

func TestCloseWakesReadersThenWriters(t *testing.T) {
	p := made(t, 8, 0)
	x := opened(t, p, 1, 2, 3)
	starts(t, p, 0, 1, 2, 3, 4, 5, 6, 7)
	for _, n := range []int{6, 1, 4} {
		waits(t, p, write(x[1]), n)
		waits(t, p, read(x[1]), n-1)
	}
	waits(t, p, read(x[0]), 2)
	waits(t, p, write(x[2]), 7)
	gives(t, p, closes(x[1]), list(5, 0, 3, 6, 1, 4), api.OK)
	m := &model{
		tasks: 8, run: list(5, 0, 3, 6, 1, 4), why: map[int]api.Reason{},
		waits: map[spot][]int{read(x[0]): {2}, write(x[2]): {7}},
		files: map[api.FD]file{x[0]: {1, none}, x[2]: {3, none}},
		gens:  map[int]int{1: 1},
	}
	for _, n := range m.run {
		m.why[n] = api.ReasonClosed
	}
	expect(t, p, m)
	refuses(t, p, api.ErrNone, closes(x[1]))
	gives(t, p, closes(x[2]), list(7), api.OK)
	gives(t, p, closes(x[0]), list(2), api.OK)
	m.run = append(m.run, 7, 2)
	m.why[2], m.why[7] = api.ReasonClosed, api.ReasonClosed
	m.waits, m.files, m.gens = nil, nil, map[int]int{0: 1, 1: 1, 2: 1}
	expect(t, p, m)
}

func TestCloseWhereNobodyWaits(t *testing.T) {
	p := mixed(t)
	m := mixedModel()
	gives(t, p, closes(name(1, 0)), list(), api.OK)
	delete(m.files, name(1, 0))
	m.gens[1] = 1
	// Its deadline at 25 is gone.
	gives(t, p, next(), 30)
	expect(t, p, m)
	gives(t, p, advance(29), list(), api.OK)
}

func TestDeadlineInEachState(t *testing.T) {
	for _, dir := range []api.Dir{in, out} {
		for _, before := range []api.Time{never, 0, 15, 20, 25} {
			for _, to := range []api.Time{0, 1, 19, 20, 21, 25, 26, last, never} {
				p := made(t, 4, 10)
				x := opened(t, p, 1, 2)[1]
				at, other := spot{x, dir}, spot{x, 1 - dir}
				starts(t, p, 0, 1, 2, 3)
				waits(t, p, at, 2, 0)
				waits(t, p, other, 3)
				m := &model{tasks: 4, now: 20, run: list(1), why: map[int]api.Reason{}, waits: map[spot][]int{at: {2, 0}, other: {3}}, files: map[api.FD]file{name(0, 0): {1, none}, x: {2, none}}}
				passes := func(c call, when bool) {
					t.Helper()
					if !when {
						gives(t, p, c, list(), api.OK)
						return
					}
					gives(t, p, c, list(2, 0), api.OK)
					m.run, m.why = list(1, 2, 0), map[int]api.Reason{2: api.ReasonTimeout, 0: api.ReasonTimeout}
					delete(m.waits, at)
				}
				passes(deadline(at, before), before <= 10)
				passes(advance(20), before == 15 || before == 20)
				passes(deadline(at, to), to <= 20 && before > 20)
				f := file{2, none}
				f.at[dir] = to
				m.files[x] = f
				expect(t, p, m)
				// Setting it once more wakes nobody.
				gives(t, p, deadline(at, to), list(), api.OK)
				expect(t, p, m)
			}
		}
	}
}

func TestAdvanceWakesByTheOrderOfTheDeadlines(t *testing.T) {
	p := made(t, 14, 10)
	x := opened(t, p, 0, 1, 2, 3)
	for n := range 14 {
		starts(t, p, n)
	}
	waits(t, p, write(x[2]), 0, 7)
	waits(t, p, read(x[2]), 1)
	waits(t, p, write(x[1]), 3, 2)
	waits(t, p, read(x[1]), 5, 4)
	waits(t, p, read(x[3]), 6)
	waits(t, p, write(x[0]), 8)
	waits(t, p, read(x[0]), 10, 9)
	waits(t, p, write(x[3]), 11, 12)
	// In an order of setting that agrees with none of the order of passing.
	for _, c := range []call{deadline(write(x[3]), 31), deadline(write(x[2]), 20), deadline(read(x[0]), 30), deadline(write(x[1]), 20), deadline(read(x[2]), 20), deadline(write(x[0]), 25), deadline(read(x[3]), 15), deadline(read(x[1]), 20)} {
		gives(t, p, c, list(), api.OK)
	}
	twin := p.Copy()
	gives(t, p, advance(30), list(6, 5, 4, 3, 2, 1, 0, 7, 8, 10, 9), api.OK)
	expect(t, p, &model{
		tasks: 14, now: 30, run: list(13, 6, 5, 4, 3, 2, 1, 0, 7, 8, 10, 9),
		why:   map[int]api.Reason{0: 2, 1: 2, 2: 2, 3: 2, 4: 2, 5: 2, 6: 2, 7: 2, 8: 2, 9: 2, 10: 2},
		waits: map[spot][]int{write(x[3]): {11, 12}},
		files: map[api.FD]file{x[0]: {0, [2]api.Time{30, 25}}, x[1]: {1, [2]api.Time{20, 20}}, x[2]: {2, [2]api.Time{20, 20}}, x[3]: {3, [2]api.Time{15, 31}}},
	})
	// The same in parts, one list after the other.
	gives(t, twin, advance(14), list(), api.OK)
	gives(t, twin, advance(15), list(6), api.OK)
	gives(t, twin, advance(15), list(), api.OK)
	gives(t, twin, advance(20), list(5, 4, 3, 2, 1, 0, 7), api.OK)
	gives(t, twin, advance(29), list(8), api.OK)
	gives(t, twin, advance(30), list(10, 9), api.OK)
	gives(t, twin, advance(last), list(11, 12), api.OK)
	gives(t, p, advance(31), list(11, 12), api.OK)
	gives(t, twin, ready(), p.Ready())
}

func TestAdvanceWhereNobodyWaits(t *testing.T) {
	p := mixed(t)
	m := mixedModel()
	gives(t, p, advance(29), list(), api.OK)
	m.now = 29
	expect(t, p, m)
	gives(t, p, advance(29), list(), api.OK)
	expect(t, p, m)
	gives(t, p, advance(30), list(2), api.OK)
	gives(t, p, reason(2), api.ReasonTimeout, api.OK)
	gives(t, p, advance(31), list(), api.OK)
}

func TestAdvanceToTimesThatAreNotAllowed(t *testing.T) {
	p := mixed(t)
	for range 2 {
		refuses(t, p, api.ErrRange, advance(0), advance(10), advance(15), advance(19))
		refuses(t, p, api.ErrArg, advance(never))
		expect(t, p, mixedModel())
	}
	gives(t, p, advance(20), list(), api.OK)
	expect(t, p, mixedModel())
}

func TestNowAndNext(t *testing.T) {
	p := made(t, 1, 10)
	x := opened(t, p, 1, 2)
	shows := func(at, first api.Time) {
		t.Helper()
		gives(t, p, now(), at)
		gives(t, p, next(), first)
	}
	sets := func(at spot, to api.Time) {
		t.Helper()
		gives(t, p, deadline(at, to), list(), api.OK)
	}
	shows(10, never)
	sets(read(x[0]), last)
	shows(10, last)
	sets(write(x[0]), 20)
	sets(read(x[1]), 10)
	shows(10, 20)
	sets(write(x[1]), 15)
	shows(10, 15)
	sets(write(x[1]), 30)
	shows(10, 20)
	sets(write(x[0]), never)
	shows(10, 30)
	gives(t, p, closes(x[1]), list(), api.OK)
	shows(10, last)
	sets(write(x[0]), 12)
	gives(t, p, advance(11), list(), api.OK)
	shows(11, 12)
	gives(t, p, advance(12), list(), api.OK)
	shows(12, last)
	gives(t, p, advance(last), list(), api.OK)
	shows(last, never)
	sets(write(x[0]), last)
	shows(last, never)
}

func TestDeadlinesAtTheEndOfTime(t *testing.T) {
	p := made(t, 2, last-1)
	x := opened(t, p, 1)[0]
	starts(t, p, 0, 1)
	waits(t, p, read(x), 0)
	waits(t, p, write(x), 1)
	gives(t, p, deadline(read(x), last), list(), api.OK)
	gives(t, p, deadline(write(x), never), list(), api.OK)
	gives(t, p, advance(last), list(0), api.OK)
	refuses(t, p, api.ErrArg, advance(never))
	refuses(t, p, api.ErrRange, advance(last-1))
	refuses(t, p, api.ErrTimeout, check(read(x)))
	can(t, p, check(write(x)))
	gives(t, p, deadline(write(x), last), list(1), api.OK)
}

func TestListsShareNoMemory(t *testing.T) {
	p := mixed(t)
	a := name(0, 1)
	run := p.Ready()
	clear(run)
	_ = append(run[:0], 8, 8, 8, 8, 8, 8)
	expect(t, p, mixedModel())
	woken, _ := p.SignalAll(a, in)
	waits(t, p, read(a), 4, 0)
	clear(woken)
	closed, _ := p.Close(a)
	clear(closed[:2])
	gives(t, p, reason(4), api.ReasonClosed, api.OK)
	waits(t, p, read(name(1, 0)), 6, 3)
	late, _ := p.Advance(25)
	clear(late)
	gives(t, p, ready(), list(7, 1, 4, 0, 2, 6, 3))
	if !slices.Equal(closed, list(0, 0, 2)) || !slices.Equal(woken, list(0, 0)) || !slices.Equal(late, list(0, 0)) {
		t.Error("lists have changed:", closed, woken, late)
	}
}

// P11.6

// Whatever a descriptor had, the next one with its number has no deadlines, and nobody waits for it.
func TestANumberThatIsOpenedAgain(t *testing.T) {
	for _, reads := range []api.Time{never, 5, 10, 15, 30} {
		for _, writes := range []api.Time{never, 5, 10, 15, 30} {
			for _, now := range []api.Time{10, 20} {
				p := made(t, 3, 10)
				x := opened(t, p, 1, 2)[1]
				starts(t, p, 0, 1, 2)
				waits(t, p, read(x), 1)
				waits(t, p, write(x), 0)
				for _, c := range []call{deadline(read(x), reads), deadline(write(x), writes), advance(now), closes(x)} {
					c.do(p)
				}
				y := name(1, 1)
				gives(t, p, next(), never)
				gives(t, p, open(3), y, api.OK)
				can(t, p, check(read(y)), check(write(y)))
				waits(t, p, read(y), 0)
				waits(t, p, write(y), 1)
				gives(t, p, next(), never)
				gives(t, p, advance(last), list(), api.OK)
				gives(t, p, where(0), y, in, api.OK)
				gives(t, p, where(1), y, out, api.OK)
				gives(t, p, ready(), list(2))
			}
		}
	}
}

// A deadline that was replaced or closed before it passed wakes nobody.
func TestOnlyADeadlineThatIsInForceWakes(t *testing.T) {
	for _, by := range []api.Time{16, 20, last, never} {
		p := made(t, 2, 10)
		x := opened(t, p, 1)[0]
		starts(t, p, 0, 1)
		gives(t, p, deadline(read(x), 15), list(), api.OK)
		waits(t, p, read(x), 0)
		gives(t, p, deadline(read(x), by), list(), api.OK)
		waits(t, p, read(x), 1)
		gives(t, p, advance(15), list(), api.OK)
		gives(t, p, ready(), list())
		if by == never {
			gives(t, p, advance(last), list(), api.OK)
		} else {
			gives(t, p, advance(by-1), list(), api.OK)
			gives(t, p, advance(by), list(0, 1), api.OK)
		}
	}
	p := made(t, 1, 10)
	x := opened(t, p, 1)[0]
	starts(t, p, 0)
	gives(t, p, deadline(write(x), 15), list(), api.OK)
	gives(t, p, closes(x), list(), api.OK)
	gives(t, p, open(2), name(0, 1), api.OK)
	waits(t, p, write(name(0, 1)), 0)
	gives(t, p, advance(15), list(), api.OK)
	gives(t, p, where(0), name(0, 1), out, api.OK)
}

// expectConsequences checks what is true of each poller, without a model.
func expectConsequences(t *testing.T, p *poller.Poller, tasks int) {
	t.Helper()
	if p.Next() <= p.Now() {
		t.Errorf("Next() = %d at %d", p.Next(), p.Now())
	}
	for n := range tasks {
		fd, dir, e := p.Where(n)
		if s, _ := p.State(n); (s == api.TaskParked) != (e == api.OK) {
			t.Errorf("State(%d) = %d, and Where is %v, %d, %d", n, s, fd, dir, e)
		}
		if e == api.OK {
			can(t, p, check(spot{fd, dir}))
		}
	}
}

// histories lets a poller and its model carry out all calls of a list, some times after each other.
func histories(t *testing.T, p *poller.Poller, m *model, calls []call, left int) {
	t.Helper()
	expectNow(t, p, m)
	expectConsequences(t, p, m.tasks)
	if left == 0 {
		expectQueues(t, p.Copy(), m.copies())
		expectDeadlines(t, p.Copy(), m.copies())
		return
	}
	for _, c := range calls {
		if t.Failed() {
			return
		}
		twin, other := p.Copy(), m.copies()
		both(t, twin, other, c)
		histories(t, twin, other, calls, left-1)
	}
}

func TestAllShortHistoriesAgreeWithTheModel(t *testing.T) {
	x, y := name(0, 0), name(0, 1)
	whole := []call{open(5), closes(x), closes(y), start(0), finish(0), turn(0), wait(0, read(x)), wait(0, write(y)), signal(read(x)), signalAll(write(y)), deadline(read(x), 1), deadline(write(y), 2), deadline(read(x), never), advance(1), advance(2), advance(0)}
	histories(t, made(t, 1, 0), newModel(1, 0), whole, 3)
	// From a poller where there is something to wait for.
	p, m := made(t, 2, 1), newModel(2, 1)
	for _, c := range []call{open(5), start(1), start(0)} {
		both(t, p, m, c)
	}
	some := []call{wait(0, read(x)), wait(1, read(x)), wait(1, write(x)), signal(read(x)), signalAll(read(x)), closes(x), open(6), deadline(read(x), 1), deadline(read(x), 3), deadline(write(x), 2), deadline(read(x), never), advance(2), advance(3)}
	histories(t, p, m, some, 3)
	few := []call{wait(0, read(x)), wait(1, read(x)), wait(0, write(x)), deadline(read(x), 2), deadline(write(x), 2), advance(2), signal(read(x)), deadline(read(x), never)}
	histories(t, p, m, few, 5)
}

// chance returns a call by chance, for some descriptors that are open, were open, or never were.
func chance(random *rand.Rand, m *model) call {
	task := random.Intn(m.tasks)
	n := random.Intn(4)
	fd := name(n, m.gens[n])
	at := spot{fd, api.Dir(random.Intn(2))}
	to := m.now + api.Time(random.Intn(12))
	switch kind := random.Intn(100); {
	case kind < 8:
		return open(random.Intn(1000))
	case kind < 11:
		return closes(fd)
	case kind < 27:
		return start(task)
	case kind < 29:
		return finish(task)
	case kind < 33:
		return turn(task)
	case kind < 63:
		return wait(task, at)
	case kind < 70:
		return signal(at)
	case kind < 73:
		return signalAll(at)
	case kind < 81:
		return deadline(at, to)
	case kind < 85:
		return deadline(at, []api.Time{0, m.now, never, never, last}[random.Intn(5)])
	case kind < 93:
		return advance(m.now + api.Time(random.Intn(4)))
	}
	return wrong(random, m, task, at)
}

// wrong returns a call with an argument that is most often not allowed.
func wrong(random *rand.Rand, m *model, task int, at spot) call {
	number := numbers[random.Intn(len(numbers))]
	stranger := strangers[random.Intn(len(strangers))]
	if random.Intn(2) == 0 {
		stranger = name(at.fd.N, at.fd.Gen-1)
	}
	if random.Intn(3) == 0 {
		at.dir = directions[random.Intn(len(directions))]
	} else {
		at.fd = stranger
	}
	l := append(ofTask(number), ofName(stranger)...)
	l = append(l, ofSpot(at)...)
	l = append(l, wait(task, at), wait(number, at), advance(m.now/2), advance(never))
	return l[random.Intn(len(l))]
}

func TestWalksAgreeWithTheModel(t *testing.T) {
	for seed, begin := range []api.Time{0, 5, 1 << 32, 1<<63 - 50, never - 5000} {
		for _, tasks := range []int{1, 2, 3, 5, 16, 64} {
			random := rand.New(rand.NewSource(int64(seed)))
			p, m := made(t, tasks, begin), newModel(tasks, begin)
			for i := range 500 {
				both(t, p, m, chance(random, m))
				expectNow(t, p, m)
				expectConsequences(t, p, tasks)
				if i%20 == 10 {
					expectQueues(t, p.Copy(), m.copies())
					expectDeadlines(t, p.Copy(), m.copies())
				}
				if i%100 == 50 {
					p, m = p.Copy(), m.copies()
				}
				if t.Failed() {
					t.Fatalf("walk from %d with %d tasks: step %d", begin, tasks, i)
				}
			}
			expect(t, p, m)
		}
	}
}

// Nil and zero objects, and P1

func TestPollersThatAreNilOrZero(t *testing.T) {
	var nobody *poller.Poller
	for _, p := range []*poller.Poller{nobody, {}, new(poller.Poller)} {
		for range 2 {
			for _, v := range []int{0, 1, math.MinInt, math.MaxInt} {
				refuses(t, p, api.ErrNil, open(v))
			}
			for _, fd := range append([]api.FD{name(0, 0), name(127, 0)}, strangers...) {
				refuses(t, p, api.ErrNil, ofName(fd)...)
				for _, dir := range append(directions, in, out) {
					refuses(t, p, api.ErrNil, ofSpot(spot{fd, dir})...)
					refuses(t, p, api.ErrNil, wait(0, spot{fd, dir}), wait(-1, spot{fd, dir}), wait(64, spot{fd, dir}))
				}
			}
			for _, n := range append(list(0, 1, 63), numbers...) {
				refuses(t, p, api.ErrNil, ofTask(n)...)
			}
			refuses(t, p, api.ErrNil, advance(0), advance(1), advance(last), advance(never))
			gives(t, p, ready(), list())
			gives(t, p, now(), api.Time(0))
			gives(t, p, next(), never)
			if p.Copy() != nil {
				t.Error("Copy() =", p.Copy())
			}
		}
	}
}

func TestAStructThatIsCopiedIsTheSamePoller(t *testing.T) {
	p := made(t, 3, 10)
	twin := *p
	q := &twin
	x := opened(t, p, 1)[0]
	starts(t, q, 2, 0)
	waits(t, p, read(x), 2)
	waits(t, q, read(x), 0)
	gives(t, q, deadline(read(x), 15), list(), api.OK)
	gives(t, p, signal(read(x)), 2, api.OK)
	gives(t, p, advance(15), list(0), api.OK)
	starts(t, p, 1)
	waits(t, q, write(x), 1)
	gives(t, p, closes(x), list(1), api.OK)
	for _, p := range []*poller.Poller{p, q} {
		expect(t, p, &model{tasks: 3, now: 15, run: list(2, 0, 1), why: map[int]api.Reason{2: api.ReasonReady, 0: api.ReasonTimeout, 1: api.ReasonClosed}, gens: map[int]int{0: 1}})
	}
}
