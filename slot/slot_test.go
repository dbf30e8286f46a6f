package slot_test

import (
	"iter"
	"math"
	"math/rand"
	"slices"
	"testing"

	"aqueduct/api"
	"aqueduct/slot"
)

// held is a descriptor that is open, with its value.
type held struct {
	fd    api.FD
	value int
}

// name returns a name.
func name(n, gen int) api.FD { return api.FD{N: n, Gen: gen} }

// entry returns an open descriptor.
func entry(n, gen, value int) held { return held{name(n, gen), value} }

// strangers are names that no descriptor of a table ever has in these tests.
var strangers = []api.FD{
	name(-1, 0), name(-1, -1), name(math.MinInt, 0), name(math.MaxInt, 0), name(api.MaxFiles, 0), name(1<<32, 0), name(1<<32+1, 0), name(-1<<32, 0),
	name(0, -1), name(1, -1), name(0, math.MinInt), name(0, math.MaxInt), name(0, 1<<32), name(0, 1<<32+1), name(1, 1<<16), name(math.MaxInt, math.MaxInt),
}

// list returns what an iterator goes over.
func list(all iter.Seq2[api.FD, int]) []held {
	var l []held
	for fd, value := range all {
		l = append(l, held{fd, value})
	}
	return l
}

// table returns an empty table.
func table(t *testing.T, most int) *slot.Table {
	t.Helper()
	x, e := slot.New(most)
	if x == nil || e != api.OK {
		t.Fatalf("New(%d) = %v, %d", most, x, e)
	}
	return x
}

// filled returns a table with some values, whose descriptors have the numbers from 0 on.
func filled(t *testing.T, most int, values ...int) *slot.Table {
	t.Helper()
	x := table(t, most)
	for i, v := range values {
		expectOpen(t, x, v, name(i, 0))
	}
	return x
}

// full returns a table without room, whose values are ten times their numbers.
func full(t *testing.T, most int) (*slot.Table, []held) {
	t.Helper()
	x := table(t, most)
	var l []held
	for i := range most {
		expectOpen(t, x, 10*i, name(i, 0))
		l = append(l, entry(i, 0, 10*i))
	}
	return x, l
}

// expect checks that the open descriptors of a table are some, by their numbers, and that everything it says of itself agrees with that.
func expect(t *testing.T, x *slot.Table, want ...held) {
	t.Helper()
	if l := list(x.All()); !slices.Equal(l, want) {
		t.Errorf("All: %v, not %v", l, want)
	}
	if x.Len() != len(want) {
		t.Errorf("Len() = %d, not %d", x.Len(), len(want))
	}
	numbers := map[int]bool{}
	for _, h := range want {
		numbers[h.fd.N] = true
		if v, e := x.Get(h.fd); v != h.value || e != api.OK {
			t.Errorf("Get(%v) = %d, %d, not %d", h.fd, v, e, h.value)
		}
		if fd, e := x.At(h.fd.N); fd != h.fd || e != api.OK {
			t.Errorf("At(%d) = %v, %d, not %v", h.fd.N, fd, e, h.fd)
		}
	}
	for n := -1; n <= api.MaxFiles; n++ {
		if fd, e := x.At(n); !numbers[n] && (fd != api.FD{} || e != api.ErrNone) {
			t.Errorf("At(%d) = %v, %d", n, fd, e)
		}
	}
}

// expectNone checks that a name is that of no open descriptor, and that using it changes nothing.
func expectNone(t *testing.T, x *slot.Table, fd api.FD) {
	t.Helper()
	before := list(x.All())
	if v, e := x.Get(fd); v != 0 || e != api.ErrNone {
		t.Errorf("Get(%v) = %d, %d", fd, v, e)
	}
	if e := x.Set(fd, 4711); e != api.ErrNone {
		t.Errorf("Set(%v) = %d", fd, e)
	}
	if v, e := x.Close(fd); v != 0 || e != api.ErrNone {
		t.Errorf("Close(%v) = %d, %d", fd, v, e)
	}
	if l := list(x.All()); !slices.Equal(l, before) {
		t.Errorf("%v has changed the table from %v to %v", fd, before, l)
	}
}

func expectOpen(t *testing.T, x *slot.Table, value int, want api.FD) {
	t.Helper()
	if fd, e := x.Open(value); fd != want || e != api.OK {
		t.Errorf("Open(%d) = %v, %d, not %v", value, fd, e, want)
	}
}

func expectFull(t *testing.T, x *slot.Table) {
	t.Helper()
	for _, value := range []int{0, 1, -1} {
		if fd, e := x.Open(value); fd != (api.FD{}) || e != api.ErrFull {
			t.Errorf("Open(%d) without room = %v, %d", value, fd, e)
		}
	}
}

func expectClose(t *testing.T, x *slot.Table, fd api.FD, want int) {
	t.Helper()
	if v, e := x.Close(fd); v != want || e != api.OK {
		t.Errorf("Close(%v) = %d, %d, not %d", fd, v, e, want)
	}
}

func expectSet(t *testing.T, x *slot.Table, fd api.FD, value int) {
	t.Helper()
	if e := x.Set(fd, value); e != api.OK {
		t.Errorf("Set(%v, %d) = %d", fd, value, e)
	}
}

// The examples

func TestExamples(t *testing.T) {
	for _, most := range []int{0, 129} {
		if x, e := slot.New(most); x != nil || e != api.ErrArg {
			t.Errorf("New(%d) = %v, %d", most, x, e)
		}
	}
	x := table(t, 2)
	expectOpen(t, x, 7, name(0, 0))
	expectOpen(t, x, 8, name(1, 0))
	if fd, e := x.Open(9); fd != (api.FD{}) || e != api.ErrFull {
		t.Errorf("Open(9) = %v, %d", fd, e)
	}
	expectClose(t, x, name(0, 0), 7)
	expectNone(t, x, name(0, 0))
	expectOpen(t, x, 5, name(0, 1))
	expectNone(t, x, name(0, 0))
	expect(t, x, entry(0, 1, 5), entry(1, 0, 8))
	expectSet(t, x, name(1, 0), 3)
	if fd, e := x.At(1); fd != name(1, 0) || e != api.OK {
		t.Errorf("At(1) = %v, %d", fd, e)
	}
	if fd, e := x.At(2); fd != (api.FD{}) || e != api.ErrNone {
		t.Errorf("At(2) = %v, %d", fd, e)
	}
	expect(t, x, entry(0, 1, 5), entry(1, 0, 3))
}

// P7.1

func TestNewOfEachRoom(t *testing.T) {
	for most := 1; most <= api.MaxFiles; most++ {
		x := table(t, most)
		expect(t, x)
		x, all := full(t, most)
		expectFull(t, x)
		expect(t, x, all...)
		expectNone(t, x, name(most, 0))
	}
}

func TestNewOfNumbersThatAreNoRooms(t *testing.T) {
	for _, most := range []int{0, -1, -2, -api.MaxFiles, math.MinInt, api.MaxFiles + 1, api.MaxFiles + 2, 1 << 16, 1<<32 + 1, math.MaxInt} {
		if x, e := slot.New(most); x != nil || e != api.ErrArg {
			t.Errorf("New(%d) = %v, %d", most, x, e)
		}
	}
}

func TestTablesAreIndependent(t *testing.T) {
	a, b := table(t, 2), table(t, 2)
	expectOpen(t, a, 3, name(0, 0))
	expectOpen(t, a, 4, name(1, 0))
	expect(t, b)
	expectOpen(t, b, 5, name(0, 0))
	expectClose(t, a, name(0, 0), 3)
	expect(t, b, entry(0, 0, 5))
	expect(t, a, entry(1, 0, 4))
}

func TestOpenOfAnyValues(t *testing.T) {
	x := table(t, api.MaxFiles)
	var want []held
	for i, value := range []int{0, -1, math.MinInt, math.MaxInt, 7, 7, 0, 1 << 40, -1 << 40, 7} {
		expectOpen(t, x, value, name(i, 0))
		want = append(want, entry(i, 0, value))
		expect(t, x, want...)
	}
	for _, h := range want {
		expectClose(t, x, h.fd, h.value)
	}
	expect(t, x)
}

func TestOpenGivesTheLowestFreeNumber(t *testing.T) {
	x := filled(t, 6, 10, 11, 12, 13, 14)
	for _, n := range []int{3, 1, 4} {
		expectClose(t, x, name(n, 0), 10+n)
	}
	expectOpen(t, x, 20, name(1, 1))
	expectOpen(t, x, 21, name(3, 1))
	expectClose(t, x, name(0, 0), 10)
	expectOpen(t, x, 22, name(0, 1))
	expectOpen(t, x, 23, name(4, 1))
	expectOpen(t, x, 24, name(5, 0))
	expectFull(t, x)
	expect(t, x, entry(0, 1, 22), entry(1, 1, 20), entry(2, 0, 12), entry(3, 1, 21), entry(4, 1, 23), entry(5, 0, 24))
}

func TestGenerationsAreCountedByNumber(t *testing.T) {
	x := filled(t, 3, 1, 2, 3)
	for gen := range 1000 {
		expectClose(t, x, name(1, gen), 2)
		expectOpen(t, x, 2, name(1, gen+1))
	}
	expectClose(t, x, name(2, 0), 3)
	expectOpen(t, x, 4, name(2, 1))
	expect(t, x, entry(0, 0, 1), entry(1, 1000, 2), entry(2, 1, 4))
	for gen := range 1000 {
		expectNone(t, x, name(1, gen))
	}
}

func TestOpenWithoutRoomChangesNothing(t *testing.T) {
	for _, most := range []int{1, 2, 5, api.MaxFiles} {
		x, all := full(t, most)
		for range 3 {
			expectFull(t, x)
		}
		expect(t, x, all...)
		// What was refused has had no name.
		last := all[most-1]
		expectClose(t, x, last.fd, last.value)
		expectOpen(t, x, 77, name(most-1, 1))
		expectFull(t, x)
		expectNone(t, x, name(most, 0))
		expect(t, x, append(slices.Clone(all[:most-1]), entry(most-1, 1, 77))...)
	}
}

func TestLen(t *testing.T) {
	x := table(t, 3)
	for i := range 6 {
		if x.Len() != min(i, 3) {
			t.Errorf("Len() = %d, not %d", x.Len(), min(i, 3))
		}
		x.Open(i)
	}
	x.Close(name(1, 0))
	x.Close(name(1, 0))
	x.Set(name(1, 0), 5)
	x.Get(name(0, 0))
	if x.Len() != 2 {
		t.Errorf("Len() = %d, not 2", x.Len())
	}
	x.Open(9)
	x.Close(name(0, 0))
	x.Close(name(2, 0))
	if x.Len() != 1 {
		t.Errorf("Len() = %d, not 1", x.Len())
	}
	x.Close(name(1, 1))
	if x.Len() != 0 {
		t.Errorf("Len() = %d, not 0", x.Len())
	}
}

// P7.2

// closeInEachOrder closes what is open in a table in each order, and checks it after each one.
func closeInEachOrder(t *testing.T, x *slot.Table, open []held) {
	t.Helper()
	for i, h := range open {
		c := x.Copy()
		expectClose(t, c, h.fd, h.value)
		rest := slices.Delete(slices.Clone(open), i, i+1)
		expect(t, c, rest...)
		expectNone(t, c, h.fd)
		expectNone(t, c, name(h.fd.N, h.fd.Gen+1))
		closeInEachOrder(t, c, rest)
	}
	expect(t, x, open...)
}

func TestCloseInEachOrder(t *testing.T) {
	x := filled(t, 4, 50, 30, 50, 0)
	closeInEachOrder(t, x, []held{entry(0, 0, 50), entry(1, 0, 30), entry(2, 0, 50), entry(3, 0, 0)})
	expectClose(t, x, name(1, 0), 30)
	expectClose(t, x, name(2, 0), 50)
	expectOpen(t, x, -1, name(1, 1))
	closeInEachOrder(t, x, []held{entry(0, 0, 50), entry(1, 1, -1), entry(3, 0, 0)})
}

func TestSet(t *testing.T) {
	x := filled(t, 3, 1, 2)
	for _, value := range []int{0, -1, math.MinInt, math.MaxInt, 2, 2} {
		expectSet(t, x, name(1, 0), value)
		expect(t, x, entry(0, 0, 1), entry(1, 0, value))
	}
	expectSet(t, x, name(0, 0), 9)
	expect(t, x, entry(0, 0, 9), entry(1, 0, 2))
	expectClose(t, x, name(0, 0), 9)
	expectNone(t, x, name(0, 0))
	// Another descriptor gets nothing of the value.
	expectOpen(t, x, 0, name(0, 1))
	expectSet(t, x, name(0, 1), 6)
	expectNone(t, x, name(0, 0))
	expect(t, x, entry(0, 1, 6), entry(1, 0, 2))
}

func TestNamesOfNoOpenDescriptor(t *testing.T) {
	x := filled(t, 3, 5, 6)
	never := append([]api.FD{name(0, 1), name(0, 2), name(1, 1), name(2, 0), name(2, 1), name(2, -1), name(3, 0), name(3, -1)}, strangers...)
	for _, fd := range never {
		expectNone(t, x, fd)
	}
	expectClose(t, x, name(0, 0), 5)
	for _, fd := range append([]api.FD{name(0, 0)}, never...) {
		expectNone(t, x, fd)
	}
	expectOpen(t, x, 7, name(0, 1))
	for _, fd := range append([]api.FD{name(0, 0), name(0, 2)}, never[2:]...) {
		expectNone(t, x, fd)
	}
	expect(t, x, entry(0, 1, 7), entry(1, 0, 6))
	for _, fd := range append([]api.FD{name(0, 0), name(1, 0)}, strangers...) {
		expectNone(t, table(t, api.MaxFiles), fd)
	}
}

func TestAtOfNumbersThatNoneHas(t *testing.T) {
	x := filled(t, 4, 5, 6, 7)
	expectClose(t, x, name(1, 0), 6)
	for _, n := range []int{1, 3, 4, -1, -2, math.MinInt, math.MaxInt, api.MaxFiles, 1 << 32, 1<<32 + 2, -1 << 32} {
		if fd, e := x.At(n); fd != (api.FD{}) || e != api.ErrNone {
			t.Errorf("At(%d) = %v, %d", n, fd, e)
		}
	}
	expectOpen(t, x, 8, name(1, 1))
	if fd, e := x.At(1); fd != name(1, 1) || e != api.OK {
		t.Errorf("At(1) = %v, %d", fd, e)
	}
	expect(t, x, entry(0, 0, 5), entry(1, 1, 8), entry(2, 0, 7))
}

// P7.3

func TestAllIsAsWhenItWasCalled(t *testing.T) {
	x, none := filled(t, 4, 5, 3, 4), table(t, 4)
	all, empty := x.All(), none.All()
	x.Close(name(1, 0))
	x.Set(name(2, 0), 9)
	x.Open(8)
	x.Open(7)
	none.Open(1)
	for range 2 {
		if l := list(all); !slices.Equal(l, []held{entry(0, 0, 5), entry(1, 0, 3), entry(2, 0, 4)}) {
			t.Error("an iterator has changed", l)
		}
		if l := list(empty); len(l) != 0 {
			t.Error("an empty iterator has changed", l)
		}
	}
	expect(t, x, entry(0, 0, 5), entry(1, 1, 8), entry(2, 0, 9), entry(3, 0, 7))
}

func TestAllInLoopsThatStopOrAreNested(t *testing.T) {
	x := filled(t, 5, 5, 3, 4, 6)
	x.Close(name(1, 0))
	all := x.All()
	want := []held{entry(0, 0, 5), entry(2, 0, 4), entry(3, 0, 6)}
	for stop := range 5 {
		var l []held
		for fd, value := range all {
			if len(l) == stop {
				break
			}
			l = append(l, held{fd, value})
		}
		if !slices.Equal(l, want[:min(stop, 3)]) {
			t.Errorf("until %d: %v", stop, l)
		}
	}
	var sums []int
	for fd := range all {
		for _, value := range all {
			sums = append(sums, 10*fd.N+value)
		}
	}
	if !slices.Equal(sums, []int{5, 4, 6, 25, 24, 26, 35, 34, 36}) {
		t.Error("nested:", sums)
	}
}

func TestAllWhileTheTableChanges(t *testing.T) {
	x := filled(t, 4, 5, 3, 4)
	var l []held
	for fd, value := range x.All() {
		l = append(l, held{fd, value})
		expectClose(t, x, fd, value)
		expectOpen(t, x, value+1, name(fd.N, 1))
		x.Open(0)
	}
	if !slices.Equal(l, []held{entry(0, 0, 5), entry(1, 0, 3), entry(2, 0, 4)}) {
		t.Error(l)
	}
	expect(t, x, entry(0, 1, 6), entry(1, 1, 4), entry(2, 1, 5), entry(3, 0, 0))
}

func TestCopy(t *testing.T) {
	x := filled(t, 4, 5, 3, 4)
	expectClose(t, x, name(1, 0), 3)
	c := x.Copy()
	expect(t, c, entry(0, 0, 5), entry(2, 0, 4))
	expectClose(t, x, name(0, 0), 5)
	expectSet(t, x, name(2, 0), 40)
	expectOpen(t, x, 8, name(0, 1))
	expect(t, x, entry(0, 1, 8), entry(2, 0, 40))
	expect(t, c, entry(0, 0, 5), entry(2, 0, 4))
	// The copy goes on with the same names, and has the same room.
	expectNone(t, c, name(1, 0))
	expectNone(t, c, name(0, 1))
	expectOpen(t, c, 9, name(1, 1))
	expectOpen(t, c, 10, name(3, 0))
	expectFull(t, c)
	expectSet(t, c, name(2, 0), 41)
	expect(t, c, entry(0, 0, 5), entry(1, 1, 9), entry(2, 0, 41), entry(3, 0, 10))
	expect(t, x, entry(0, 1, 8), entry(2, 0, 40))
	expectOpen(t, x, 11, name(1, 1))
	expect(t, c.Copy(), entry(0, 0, 5), entry(1, 1, 9), entry(2, 0, 41), entry(3, 0, 10))
}

func TestCopyOfEmptyAndFullTables(t *testing.T) {
	expect(t, table(t, 3).Copy())
	gone := filled(t, 2, 1, 2)
	gone.Close(name(0, 0))
	gone.Close(name(1, 0))
	c := gone.Copy()
	expect(t, c)
	expectOpen(t, c, 3, name(0, 1))
	expectOpen(t, c, 4, name(1, 1))
	expectFull(t, c)
	expect(t, gone)
	for _, most := range []int{1, 3, api.MaxFiles} {
		x, all := full(t, most)
		c := x.Copy()
		expectFull(t, c)
		expectClose(t, c, name(0, 0), 0)
		expectFull(t, x)
		expect(t, x, all...)
		expect(t, c, all[1:]...)
	}
}

// P7.4

// record is a descriptor that was opened once.
type record struct {
	held
	open bool
}

// model is a table that looks at all descriptors that there ever were whenever it is asked.
type model struct {
	most    int
	records []record
}

// open returns the descriptors that are open, by their numbers.
func (m *model) open() []held {
	var l []held
	for n := range m.most {
		for _, r := range m.records {
			if r.open && r.fd.N == n {
				l = append(l, r.held)
			}
		}
	}
	return l
}

// next returns the name of the next descriptor, or false if there is no room.
func (m *model) next() (api.FD, bool) {
	for n := range m.most {
		used, gen := false, 0
		for _, r := range m.records {
			if r.fd.N == n {
				gen++
				used = used || r.open
			}
		}
		if !used {
			return name(n, gen), true
		}
	}
	return api.FD{}, false
}

// opens opens a descriptor in a table and its model.
func (m *model) opens(t *testing.T, x *slot.Table, value int) {
	t.Helper()
	fd, ok := m.next()
	if !ok {
		expectFull(t, x)
		return
	}
	expectOpen(t, x, value, fd)
	m.records = append(m.records, record{held{fd, value}, true})
}

// closes closes the descriptor that was opened as the i-th one, if it is open.
func (m *model) closes(t *testing.T, x *slot.Table, i int) {
	t.Helper()
	r := &m.records[i]
	if !r.open {
		expectNone(t, x, r.fd)
		return
	}
	expectClose(t, x, r.fd, r.value)
	r.open = false
}

// sets gives a value to the descriptor that was opened as the i-th one, if it is open.
func (m *model) sets(t *testing.T, x *slot.Table, i, value int) {
	t.Helper()
	r := &m.records[i]
	if !r.open {
		expectNone(t, x, r.fd)
		return
	}
	expectSet(t, x, r.fd, value)
	r.value = value
}

// check checks that a table is as its model, and that names of the past and of the future are refused.
func (m *model) check(t *testing.T, x *slot.Table) {
	t.Helper()
	expect(t, x, m.open()...)
	names := map[api.FD]bool{}
	for _, r := range m.records {
		if names[r.fd] || r.fd.N < 0 || r.fd.N >= m.most {
			t.Errorf("the name %v was given", r.fd)
		}
		names[r.fd] = true
		if !r.open {
			expectNone(t, x, r.fd)
		}
	}
	if fd, ok := m.next(); ok {
		expectNone(t, x, fd)
	}
}

func TestAllShortHistoriesAgreeWithTheModel(t *testing.T) {
	for most := 1; most <= 3; most++ {
		var walk func(x *slot.Table, m *model, left int)
		walk = func(x *slot.Table, m *model, left int) {
			m.check(t, x)
			if left == 0 || t.Failed() {
				return
			}
			step := func(do func(x *slot.Table, m *model)) {
				c, twin := x.Copy(), &model{most, slices.Clone(m.records)}
				do(c, twin)
				walk(c, twin, left-1)
			}
			step(func(x *slot.Table, m *model) { m.opens(t, x, left) })
			for i, r := range m.records {
				if r.open {
					step(func(x *slot.Table, m *model) { m.closes(t, x, i) })
				}
			}
		}
		walk(table(t, most), &model{most: most}, 7)
	}
}

func TestWalksAgreeWithTheModel(t *testing.T) {
	for seed, most := range []int{1, 2, 3, 4, 7, 30, 127, 128} {
		random := rand.New(rand.NewSource(int64(seed)))
		x, m := table(t, most), &model{most: most}
		for step := range 400 {
			value := random.Int() - random.Int()
			switch n := len(m.records); {
			case n == 0 || random.Intn(5) < 2:
				m.opens(t, x, value)
			case random.Intn(2) == 0:
				m.closes(t, x, random.Intn(n))
			default:
				m.sets(t, x, random.Intn(n), value)
			}
			m.check(t, x)
			if step%100 == 50 {
				x = x.Copy()
			}
			if t.Failed() {
				t.Fatalf("walk %d: step %d", seed, step)
			}
		}
	}
}

// Nil and zero objects, and P1

func TestTablesThatAreNilOrZero(t *testing.T) {
	var none *slot.Table
	for i, x := range []*slot.Table{none, {}, new(slot.Table)} {
		for range 2 {
			if fd, e := x.Open(1); fd != (api.FD{}) || e != api.ErrNil {
				t.Errorf("%d: Open(1) = %v, %d", i, fd, e)
			}
			for _, fd := range append([]api.FD{name(0, 0), name(0, 1), name(1, 0)}, strangers...) {
				if v, e := x.Close(fd); v != 0 || e != api.ErrNil {
					t.Errorf("%d: Close(%v) = %d, %d", i, fd, v, e)
				}
				if v, e := x.Get(fd); v != 0 || e != api.ErrNil {
					t.Errorf("%d: Get(%v) = %d, %d", i, fd, v, e)
				}
				if e := x.Set(fd, 1); e != api.ErrNil {
					t.Errorf("%d: Set(%v, 1) = %d", i, fd, e)
				}
				if n, e := x.At(fd.N); n != (api.FD{}) || e != api.ErrNil {
					t.Errorf("%d: At(%d) = %v, %d", i, fd.N, n, e)
				}
			}
			if x.Len() != 0 || x.Copy() != nil {
				t.Errorf("%d: Len() = %d, Copy() = %v", i, x.Len(), x.Copy())
			}
			all := x.All()
			if all == nil || len(list(all)) != 0 || len(list(all)) != 0 {
				t.Errorf("%d: All is not an iterator over nothing", i)
			}
		}
	}
}

func TestAStructThatIsCopiedIsTheSameTable(t *testing.T) {
	x := filled(t, 3, 5, 3)
	twin := *x
	expectClose(t, &twin, name(0, 0), 5)
	expectNone(t, x, name(0, 0))
	expectOpen(t, x, 7, name(0, 1))
	expectOpen(t, &twin, 8, name(2, 0))
	expectFull(t, x)
	expectFull(t, &twin)
	expect(t, x, entry(0, 1, 7), entry(1, 0, 3), entry(2, 0, 8))
	expect(t, &twin, entry(0, 1, 7), entry(1, 0, 3), entry(2, 0, 8))
}
