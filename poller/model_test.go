package poller_test

import (
	"cmp"
	"fmt"
	"maps"
	"slices"
	"testing"

	"aqueduct/api"
	"aqueduct/poller"
)

const (
	in    = api.DirRead
	out   = api.DirWrite
	never = api.Never
	last  = never - 1 // the last time that there can be
)

// spot is a descriptor and a direction.
type spot struct {
	fd  api.FD
	dir api.Dir
}

// name returns a name.
func name(n, gen int) api.FD { return api.FD{N: n, Gen: gen} }

// read returns the spot of a descriptor where readers wait.
func read(fd api.FD) spot { return spot{fd, in} }

// write returns the spot of a descriptor where writers wait.
func write(fd api.FD) spot { return spot{fd, out} }

// file is what is known of an open descriptor: its value and its deadlines.
type file struct {
	value int
	at    [2]api.Time
}

// none are the deadlines of a descriptor that has none.
var none = [2]api.Time{never, never}

// model is all that can be seen of a poller, and a poller that looks at all of it whenever it is asked. Tasks that are neither in the run set nor in a queue are idle; ready tasks without an entry were not woken.
type model struct {
	tasks int
	now   api.Time
	run   []int
	why   map[int]api.Reason
	waits map[spot][]int
	files map[api.FD]file
	gens  map[int]int // how many descriptors that are closed had a number
}

// newModel returns a model of a new poller.
func newModel(tasks int, now api.Time) *model {
	return &model{tasks, now, nil, map[int]api.Reason{}, map[spot][]int{}, map[api.FD]file{}, map[int]int{}}
}

// cloned returns a copy of a map that is not nil.
func cloned[K comparable, V any](x map[K]V) map[K]V {
	y := map[K]V{}
	maps.Copy(y, x)
	return y
}

// copies returns an independent model. Lists are never changed, but replaced.
func (m *model) copies() *model {
	return &model{m.tasks, m.now, m.run, cloned(m.why), cloned(m.waits), cloned(m.files), cloned(m.gens)}
}

// valid reports whether a direction is one.
func valid(dir api.Dir) bool { return dir == in || dir == out }

// where returns where a task waits, if it does.
func (m *model) where(task int) (spot, bool) {
	for at, list := range m.waits {
		if slices.Contains(list, task) {
			return at, true
		}
	}
	return spot{}, false
}

// State returns the state of a task, or an error.
func (m *model) State(task int) (api.TaskState, api.Errno) {
	if task < 0 || task >= m.tasks {
		return 0, api.ErrArg
	}
	if _, waits := m.where(task); waits {
		return api.TaskParked, api.OK
	}
	if slices.Contains(m.run, task) {
		return api.TaskReady, api.OK
	}
	return api.TaskIdle, api.OK
}

// needs returns OK if a task is in a state, or an error.
func (m *model) needs(task int, want api.TaskState) api.Errno {
	state, code := m.State(task)
	if code == api.OK && state != want {
		return api.ErrState
	}
	return code
}

// leaves takes a task out of the run set.
func (m *model) leaves(task int) {
	m.run = slices.DeleteFunc(slices.Clone(m.run), func(n int) bool { return n == task })
}

// enters puts a task at the end of the run set.
func (m *model) enters(task int) { m.run = append(slices.Clone(m.run), task) }

// Start makes an idle task ready, or returns an error.
func (m *model) Start(task int) api.Errno {
	code := m.needs(task, api.TaskIdle)
	if code == api.OK {
		delete(m.why, task)
		m.enters(task)
	}
	return code
}

// Finish makes a ready task idle, or returns an error.
func (m *model) Finish(task int) api.Errno {
	code := m.needs(task, api.TaskReady)
	if code == api.OK {
		m.leaves(task)
	}
	return code
}

// Turn puts a ready task at the end of the run set, or returns an error.
func (m *model) Turn(task int) api.Errno {
	code := m.needs(task, api.TaskReady)
	if code == api.OK {
		m.leaves(task)
		m.enters(task)
	}
	return code
}

// Reason returns why a ready task was woken last, or an error.
func (m *model) Reason(task int) (api.Reason, api.Errno) {
	if code := m.needs(task, api.TaskReady); code != api.OK {
		return 0, code
	}
	return m.why[task], api.OK
}

// Where returns where a task is parked, or an error.
func (m *model) Where(task int) (api.FD, api.Dir, api.Errno) {
	if code := m.needs(task, api.TaskParked); code != api.OK {
		return api.FD{}, 0, code
	}
	at, _ := m.where(task)
	return at.fd, at.dir, api.OK
}

// Open opens a descriptor, or returns an error.
func (m *model) Open(value int) (api.FD, api.Errno) {
	for n := range api.MaxFiles {
		fd := name(n, m.gens[n])
		if _, open := m.files[fd]; !open {
			m.files[fd] = file{value, none}
			return fd, api.OK
		}
	}
	return api.FD{}, api.ErrFull
}

// Value returns the value of a descriptor, or an error.
func (m *model) Value(fd api.FD) (int, api.Errno) {
	f, open := m.files[fd]
	if !open {
		return 0, api.ErrNone
	}
	return f.value, api.OK
}

// wakes wakes all who wait at a spot.
func (m *model) wakes(at spot, why api.Reason) []int {
	list := m.waits[at]
	delete(m.waits, at)
	for _, task := range list {
		m.why[task] = why
		m.enters(task)
	}
	return list
}

// Close closes a descriptor, or returns an error.
func (m *model) Close(fd api.FD) ([]int, api.Errno) {
	if _, open := m.files[fd]; !open {
		return nil, api.ErrNone
	}
	delete(m.files, fd)
	m.gens[fd.N]++
	readers := m.wakes(read(fd), api.ReasonClosed)
	return slices.Concat(readers, m.wakes(write(fd), api.ReasonClosed)), api.OK
}

// find returns what is known of a descriptor, or the error of a call with a direction.
func (m *model) find(fd api.FD, dir api.Dir) (file, api.Errno) {
	f, open := m.files[fd]
	switch {
	case !valid(dir):
		return file{}, api.ErrArg
	case !open:
		return file{}, api.ErrNone
	}
	return f, api.OK
}

// Deadline sets a deadline, or returns an error.
func (m *model) Deadline(fd api.FD, dir api.Dir, at api.Time) ([]int, api.Errno) {
	f, code := m.find(fd, dir)
	if code != api.OK {
		return nil, code
	}
	f.at[dir] = at
	m.files[fd] = f
	if at > m.now {
		return nil, api.OK
	}
	return m.wakes(spot{fd, dir}, api.ReasonTimeout), api.OK
}

// Check tells whether a task may wait.
func (m *model) Check(fd api.FD, dir api.Dir) api.Errno {
	f, code := m.find(fd, dir)
	if code == api.OK && f.at[dir] <= m.now {
		return api.ErrTimeout
	}
	return code
}

// Wait parks a ready task, or returns an error.
func (m *model) Wait(task int, fd api.FD, dir api.Dir) api.Errno {
	state, code := m.State(task)
	if code != api.OK {
		return code
	}
	switch code := m.Check(fd, dir); {
	case code == api.ErrArg, code == api.ErrNone:
		return code
	case state != api.TaskReady:
		return api.ErrState
	case code != api.OK:
		return code
	}
	at := spot{fd, dir}
	m.leaves(task)
	m.waits[at] = append(slices.Clone(m.waits[at]), task)
	return api.OK
}

// Signal wakes one task, or returns an error.
func (m *model) Signal(fd api.FD, dir api.Dir) (int, api.Errno) {
	if _, code := m.find(fd, dir); code != api.OK {
		return 0, code
	}
	at := spot{fd, dir}
	list := m.waits[at]
	if len(list) == 0 {
		return 0, api.ErrNone
	}
	m.waits[at] = list[:1]
	m.wakes(at, api.ReasonReady)
	if len(list) > 1 {
		m.waits[at] = list[1:]
	}
	return list[0], api.OK
}

// SignalAll wakes all who wait, or returns an error.
func (m *model) SignalAll(fd api.FD, dir api.Dir) ([]int, api.Errno) {
	if _, code := m.find(fd, dir); code != api.OK {
		return nil, code
	}
	return m.wakes(spot{fd, dir}, api.ReasonReady), api.OK
}

// spots returns the spots of all open descriptors, by numbers and directions.
func (m *model) spots() []spot {
	var l []spot
	for fd := range m.files {
		l = append(l, read(fd), write(fd))
	}
	slices.SortFunc(l, func(a, b spot) int { return cmp.Or(a.fd.N-b.fd.N, int(a.dir-b.dir)) })
	return l
}

// deadline returns the deadline of a spot.
func (m *model) deadline(at spot) api.Time { return m.files[at.fd].at[at.dir] }

// pending returns the deadlines that have not passed, in order.
func (m *model) pending() []spot {
	l := slices.DeleteFunc(m.spots(), func(at spot) bool { return m.deadline(at) <= m.now || m.deadline(at) == never })
	slices.SortStableFunc(l, func(a, b spot) int { return cmp.Compare(m.deadline(a), m.deadline(b)) })
	return l
}

// Advance sets the time, or returns an error.
func (m *model) Advance(to api.Time) ([]int, api.Errno) {
	switch {
	case to == never:
		return nil, api.ErrArg
	case to < m.now:
		return nil, api.ErrRange
	}
	pending := m.pending()
	m.now = to
	var list []int
	for _, at := range pending {
		if m.deadline(at) <= to {
			list = append(list, m.wakes(at, api.ReasonTimeout)...)
		}
	}
	return list, api.OK
}

// Ready returns the run set.
func (m *model) Ready() []int { return m.run }

// Now returns the time.
func (m *model) Now() api.Time { return m.now }

// Next returns the first deadline that has not passed.
func (m *model) Next() api.Time {
	if l := m.pending(); len(l) > 0 {
		return m.deadline(l[0])
	}
	return never
}

// machine is a poller or a model.
type machine interface {
	Open(value int) (api.FD, api.Errno)
	Close(fd api.FD) ([]int, api.Errno)
	Value(fd api.FD) (int, api.Errno)
	Deadline(fd api.FD, dir api.Dir, at api.Time) ([]int, api.Errno)
	Check(fd api.FD, dir api.Dir) api.Errno
	Wait(task int, fd api.FD, dir api.Dir) api.Errno
	Signal(fd api.FD, dir api.Dir) (int, api.Errno)
	SignalAll(fd api.FD, dir api.Dir) ([]int, api.Errno)
	Advance(to api.Time) ([]int, api.Errno)
	Start(task int) api.Errno
	Finish(task int) api.Errno
	Turn(task int) api.Errno
	Reason(task int) (api.Reason, api.Errno)
	State(task int) (api.TaskState, api.Errno)
	Where(task int) (api.FD, api.Dir, api.Errno)
	Ready() []int
	Now() api.Time
	Next() api.Time
}

// call is a call with its arguments. Its results are told as a text, of which that of an error begins with zero values.
type call struct {
	name string
	zero string
	do   func(x machine) string
}

// The text of the zero values of results that come with an error code.
const (
	noResult = ""
	noNumber = "0 "
	noList   = "[] "
	noName   = "{0 0} "
	noSpot   = "{0 0} 0 "
)

// both lets a poller and its model carry out a call, and compares the results.
func both(t *testing.T, p *poller.Poller, m *model, c call) {
	t.Helper()
	got, want := c.do(p), c.do(m)
	if got != want {
		t.Errorf("%s = %s, not %s", c.name, got, want)
	}
}

// The calls

func open(value int) call {
	return call{fmt.Sprintf("Open(%d)", value), noName, func(x machine) string { return fmt.Sprint(x.Open(value)) }}
}

func closes(fd api.FD) call {
	return call{fmt.Sprintf("Close(%v)", fd), noList, func(x machine) string { return fmt.Sprint(x.Close(fd)) }}
}

func value(fd api.FD) call {
	return call{fmt.Sprintf("Value(%v)", fd), noNumber, func(x machine) string { return fmt.Sprint(x.Value(fd)) }}
}

func deadline(at spot, to api.Time) call {
	return call{fmt.Sprintf("Deadline(%v, %d)", at, to), noList, func(x machine) string { return fmt.Sprint(x.Deadline(at.fd, at.dir, to)) }}
}

func check(at spot) call {
	return call{fmt.Sprintf("Check(%v)", at), noResult, func(x machine) string { return fmt.Sprint(x.Check(at.fd, at.dir)) }}
}

func wait(task int, at spot) call {
	return call{fmt.Sprintf("Wait(%d, %v)", task, at), noResult, func(x machine) string { return fmt.Sprint(x.Wait(task, at.fd, at.dir)) }}
}

func signal(at spot) call {
	return call{fmt.Sprintf("Signal(%v)", at), noNumber, func(x machine) string { return fmt.Sprint(x.Signal(at.fd, at.dir)) }}
}

func signalAll(at spot) call {
	return call{fmt.Sprintf("SignalAll(%v)", at), noList, func(x machine) string { return fmt.Sprint(x.SignalAll(at.fd, at.dir)) }}
}

func advance(to api.Time) call {
	return call{fmt.Sprintf("Advance(%d)", to), noList, func(x machine) string { return fmt.Sprint(x.Advance(to)) }}
}

func start(task int) call {
	return call{fmt.Sprintf("Start(%d)", task), noResult, func(x machine) string { return fmt.Sprint(x.Start(task)) }}
}

func finish(task int) call {
	return call{fmt.Sprintf("Finish(%d)", task), noResult, func(x machine) string { return fmt.Sprint(x.Finish(task)) }}
}

func turn(task int) call {
	return call{fmt.Sprintf("Turn(%d)", task), noResult, func(x machine) string { return fmt.Sprint(x.Turn(task)) }}
}

func reason(task int) call {
	return call{fmt.Sprintf("Reason(%d)", task), noNumber, func(x machine) string { return fmt.Sprint(x.Reason(task)) }}
}

func state(task int) call {
	return call{fmt.Sprintf("State(%d)", task), noNumber, func(x machine) string { return fmt.Sprint(x.State(task)) }}
}

func where(task int) call {
	return call{fmt.Sprintf("Where(%d)", task), noSpot, func(x machine) string { return fmt.Sprint(x.Where(task)) }}
}

func ready() call {
	return call{"Ready()", noResult, func(x machine) string { return fmt.Sprint(x.Ready()) }}
}

func now() call {
	return call{"Now()", noResult, func(x machine) string { return fmt.Sprint(x.Now()) }}
}

func next() call {
	return call{"Next()", noResult, func(x machine) string { return fmt.Sprint(x.Next()) }}
}

// ofTask returns the calls for a task without a descriptor.
func ofTask(task int) []call {
	return []call{start(task), finish(task), turn(task), reason(task), state(task), where(task)}
}

// ofName returns the calls for a descriptor without a direction.
func ofName(fd api.FD) []call { return []call{closes(fd), value(fd)} }

// ofSpot returns the calls for a descriptor in a direction without a task.
func ofSpot(at spot) []call {
	return []call{deadline(at, 0), deadline(at, 21), deadline(at, never), check(at), signal(at), signalAll(at)}
}

// looks are the calls that change nothing, for the tasks and open descriptors of a model, and for the names next to these.
func (m *model) looks() []call {
	l := []call{ready(), now(), next()}
	for task := range m.tasks {
		l = append(l, state(task), reason(task), where(task))
	}
	for fd := range m.files {
		for _, fd := range []api.FD{fd, name(fd.N, fd.Gen-1), name(fd.N, fd.Gen+1), name(fd.N+1, fd.Gen)} {
			l = append(l, value(fd), check(read(fd)), check(write(fd)))
		}
	}
	return l
}

// expect checks all that can be seen of a poller, now and later on.
func expect(t *testing.T, p *poller.Poller, m *model) {
	t.Helper()
	expectNow(t, p, m)
	expectQueues(t, p.Copy(), m.copies())
	expectDeadlines(t, p.Copy(), m.copies())
	// Which numbers are free, and how often they were given.
	twin, other := p.Copy(), m.copies()
	for len(other.files) < api.MaxFiles && !t.Failed() {
		both(t, twin, other, open(len(other.files)))
	}
	both(t, twin, other, open(0))
}

// expectNow checks what can be seen of a poller at once.
func expectNow(t *testing.T, p *poller.Poller, m *model) {
	t.Helper()
	for _, c := range m.looks() {
		both(t, p, m, c)
	}
}

// expectQueues checks who waits where, in which order. It uses the poller up.
func expectQueues(t *testing.T, p *poller.Poller, m *model) {
	t.Helper()
	for _, at := range m.spots() {
		both(t, p, m, signalAll(at))
	}
}

// expectDeadlines checks what passes, and when. It uses the poller up.
func expectDeadlines(t *testing.T, p *poller.Poller, m *model) {
	t.Helper()
	for m.Next() != never && !t.Failed() {
		both(t, p, m, next())
		to := m.Next()
		if to-1 > m.now {
			both(t, p, m, advance(to-1))
		}
		both(t, p, m, advance(to))
		for _, at := range m.spots() {
			both(t, p, m, check(at))
		}
	}
	both(t, p, m, next())
}
