package timer_test

import (
	"math"
	"math/rand"
	"slices"
	"testing"

	"aqueduct/api"
	"aqueduct/timer"
)

const never = api.Never

// id returns a name.
func id(n, gen int) api.TimerID { return api.TimerID{N: n, Gen: gen} }

// due returns a timer that has expired.
func due(n, gen, owner int, at api.Time) api.Due {
	return api.Due{ID: id(n, gen), Owner: owner, At: at}
}

// strangers are names of which no small number of timers has ever had one.
var strangers = []api.TimerID{
	id(-1, 0), id(-1, -1), id(-64, 0), id(timer.MaxTimers-1, 0), id(timer.MaxTimers, 0), id(timer.MaxTimers+1, 0), id(1<<32, 0), id(math.MinInt, 0), id(math.MaxInt, 0),
	id(0, -1), id(0, 100), id(0, 1<<32), id(0, math.MinInt), id(0, math.MaxInt), id(math.MaxInt, math.MaxInt),
}

// filled returns timers that are set for some times, and have ten times their number as owners.
func filled(t *testing.T, times ...api.Time) *timer.Timers {
	t.Helper()
	x := timer.New()
	for i, at := range times {
		expectSet(t, x, at, 10*i, id(i, 0))
	}
	return x
}

// expectSet sets a timer and checks its name.
func expectSet(t *testing.T, x *timer.Timers, at api.Time, owner int, want api.TimerID) {
	t.Helper()
	if n, e := x.Set(at, owner); n != want || e != api.OK {
		t.Errorf("Set(%d, %d) = %d, %d, not %d", at, owner, n, e, want)
	}
}

// expectStop stops a timer.
func expectStop(t *testing.T, x *timer.Timers, n api.TimerID) {
	t.Helper()
	if e := x.Stop(n); e != api.OK {
		t.Errorf("Stop(%d) = %d", n, e)
	}
}

// expectReset sets a timer for another time.
func expectReset(t *testing.T, x *timer.Timers, n api.TimerID, at api.Time) {
	t.Helper()
	if e := x.Reset(n, at); e != api.OK {
		t.Errorf("Reset(%d, %d) = %d", n, at, e)
	}
}

// expectExpire checks what expires at a time.
func expectExpire(t *testing.T, x *timer.Timers, now api.Time, want ...api.Due) {
	t.Helper()
	if l := x.Expire(now); !slices.Equal(l, want) {
		t.Errorf("Expire(%d) = %d, not %d", now, l, want)
	}
}

// expect checks which timers are set, in order. That they expire in this order is seen from a copy.
func expect(t *testing.T, x *timer.Timers, want ...api.Due) {
	t.Helper()
	if x.Len() != len(want) {
		t.Errorf("Len() = %d, not %d", x.Len(), len(want))
	}
	next := never
	if len(want) > 0 {
		next = want[0].At
	}
	if x.Next() != next {
		t.Errorf("Next() = %d, not %d", x.Next(), next)
	}
	for _, d := range want {
		if at, owner, e := x.Get(d.ID); at != d.At || owner != d.Owner || e != api.OK {
			t.Errorf("Get(%d) = %d, %d, %d, not %d, %d", d.ID, at, owner, e, d.At, d.Owner)
		}
	}
	expectExpire(t, x.Copy(), never-1, want...)
}

// expectNone checks that a name is that of no timer, for any method.
func expectNone(t *testing.T, x *timer.Timers, n api.TimerID) {
	t.Helper()
	if at, owner, e := x.Get(n); at != 0 || owner != 0 || e != api.ErrNone {
		t.Errorf("Get(%d) = %d, %d, %d", n, at, owner, e)
	}
	for _, at := range []api.Time{0, 5, never - 1} {
		if e := x.Reset(n, at); e != api.ErrNone {
			t.Errorf("Reset(%d, %d) = %d", n, at, e)
		}
	}
	if e := x.Stop(n); e != api.ErrNone {
		t.Errorf("Stop(%d) = %d", n, e)
	}
}

// The examples

func TestExamples(t *testing.T) {
	x := timer.New()
	expectSet(t, x, 5, 1, id(0, 0))
	expectSet(t, x, 3, 2, id(1, 0))
	expectSet(t, x, 5, 3, id(2, 0))
	if n, e := x.Set(never, 4); n != id(0, 0) || e != api.ErrArg {
		t.Errorf("Set(never, 4) = %d, %d", n, e)
	}
	if x.Next() != 3 {
		t.Errorf("Next() = %d", x.Next())
	}
	expectReset(t, x, id(1, 0), 5)
	expectExpire(t, x, 4)
	expectExpire(t, x, 5, due(0, 0, 1, 5), due(1, 0, 2, 5), due(2, 0, 3, 5))
	expectSet(t, x, 9, 7, id(0, 1))
	if e := x.Stop(id(0, 0)); e != api.ErrNone {
		t.Errorf("Stop(0 0) = %d", e)
	}
	expectStop(t, x, id(0, 1))
	if e := x.Stop(id(0, 1)); e != api.ErrNone {
		t.Errorf("Stop(0 1) again = %d", e)
	}
}

// P3.1

func TestNew(t *testing.T) {
	x, y := timer.New(), timer.New()
	expect(t, x)
	expectSet(t, x, 1, 1, id(0, 0))
	expect(t, y)
	expectNone(t, y, id(0, 0))
}

func TestSet(t *testing.T) {
	x := timer.New()
	expectSet(t, x, 7, -3, id(0, 0))
	expectSet(t, x, 0, math.MaxInt, id(1, 0))
	expectSet(t, x, never-1, math.MinInt, id(2, 0))
	// Owners are any numbers, also the same one again.
	expectSet(t, x, 7, -3, id(3, 0))
	expect(t, x, due(1, 0, math.MaxInt, 0), due(0, 0, -3, 7), due(3, 0, -3, 7), due(2, 0, math.MinInt, never-1))
}

func TestSetForNever(t *testing.T) {
	x := filled(t, 4)
	for _, owner := range []int{0, 4, math.MinInt} {
		if n, e := x.Set(never, owner); n != id(0, 0) || e != api.ErrArg {
			t.Errorf("Set(never, %d) = %d, %d", owner, n, e)
		}
	}
	expect(t, x, due(0, 0, 0, 4))
	// What was refused has had no number.
	expectSet(t, x, 5, 1, id(1, 0))
}

func TestLowestFreeNumber(t *testing.T) {
	x := filled(t, 9, 8, 7, 6, 5)
	expectStop(t, x, id(3, 0))
	expectStop(t, x, id(1, 0))
	expectExpire(t, x, 5, due(4, 0, 40, 5))
	expectSet(t, x, 1, 1, id(1, 1))
	expectSet(t, x, 2, 2, id(3, 1))
	expectSet(t, x, 3, 3, id(4, 1))
	expectSet(t, x, 4, 4, id(5, 0))
	expect(t, x, due(1, 1, 1, 1), due(3, 1, 2, 2), due(4, 1, 3, 3), due(5, 0, 4, 4), due(2, 0, 20, 7), due(0, 0, 0, 9))
}

func TestGenerations(t *testing.T) {
	x := filled(t, 50, 60)
	for gen := range 20 {
		expectNone(t, x, id(0, gen+1))
		// Stopped and expired timers count alike, and a reset does not.
		expectReset(t, x, id(0, gen), 10)
		expectReset(t, x, id(0, gen), 20)
		if gen%3 == 0 {
			expectStop(t, x, id(0, gen))
		} else {
			expectExpire(t, x, 20, due(0, gen, 0, 20))
		}
		expectNone(t, x, id(0, gen))
		expectSet(t, x, 50, 0, id(0, gen+1))
	}
	expectStop(t, x, id(1, 0))
	expectSet(t, x, 60, 10, id(1, 1))
	expect(t, x, due(0, 20, 0, 50), due(1, 1, 10, 60))
}

func TestTooMany(t *testing.T) {
	x := timer.New()
	var all []api.Due
	for i := range timer.MaxTimers {
		expectSet(t, x, api.Time(i/2), i, id(i, 0))
		all = append(all, due(i, 0, i, api.Time(i/2)))
	}
	for _, at := range []api.Time{0, 5, never - 1} {
		if n, e := x.Set(at, 1); n != id(0, 0) || e != api.ErrFull {
			t.Errorf("Set(%d, 1) with too many = %d, %d", at, n, e)
		}
	}
	if n, e := x.Set(never, 1); n != id(0, 0) || e != api.ErrArg {
		t.Errorf("Set(never, 1) with too many = %d, %d", n, e)
	}
	expect(t, x, all...)
	expectNone(t, x, id(timer.MaxTimers, 0))
	for _, n := range []int{timer.MaxTimers - 1, 512, 0} {
		expectStop(t, x, id(n, 0))
		expectSet(t, x, 3, 3, id(n, 1))
		if n, e := x.Set(1, 1); n != id(0, 0) || e != api.ErrFull {
			t.Errorf("Set(1, 1) with too many again = %d, %d", n, e)
		}
	}
	if l := x.Expire(never - 1); len(l) != timer.MaxTimers || x.Len() != 0 {
		t.Errorf("%d have expired, %d are left", len(l), x.Len())
	}
	expectSet(t, x, 1, 1, id(0, 2))
	expectSet(t, x, 1, 1, id(1, 1))
}

// P3.2

func TestReset(t *testing.T) {
	for _, c := range []struct {
		n    int
		at   api.Time
		want []int
	}{
		{0, 10, []int{0, 1, 2, 3}}, {0, 20, []int{0, 1, 2, 3}}, {0, 21, []int{1, 2, 0, 3}}, {0, never - 1, []int{1, 2, 3, 0}},
		{1, 20, []int{0, 1, 2, 3}}, {1, 0, []int{1, 0, 2, 3}}, {1, 10, []int{0, 1, 2, 3}}, {1, 30, []int{0, 2, 1, 3}},
		{2, 10, []int{0, 2, 1, 3}}, {2, 9, []int{2, 0, 1, 3}}, {3, 20, []int{0, 1, 2, 3}}, {3, 19, []int{0, 3, 1, 2}}, {3, 0, []int{3, 0, 1, 2}},
	} {
		times := []api.Time{10, 20, 20, 30}
		x := filled(t, times...)
		expectReset(t, x, id(c.n, 0), c.at)
		times[c.n] = c.at
		var want []api.Due
		for _, n := range c.want {
			want = append(want, due(n, 0, 10*n, times[n]))
		}
		expect(t, x, want...)
	}
}

func TestResetDoesNotMatterForTheOrder(t *testing.T) {
	x := filled(t, 7, 7, 7, 7, 7)
	for _, n := range []int{3, 0, 4, 0, 2} {
		for _, at := range []api.Time{0, never - 1, 8, 6, 7} {
			expectReset(t, x, id(n, 0), at)
		}
	}
	expect(t, x, due(0, 0, 0, 7), due(1, 0, 10, 7), due(2, 0, 20, 7), due(3, 0, 30, 7), due(4, 0, 40, 7))
}

func TestResetForNever(t *testing.T) {
	x := filled(t, 4, 5)
	for _, n := range append([]api.TimerID{id(0, 0), id(1, 0), id(1, 1)}, strangers...) {
		if e := x.Reset(n, never); e != api.ErrArg {
			t.Errorf("Reset(%d, never) = %d", n, e)
		}
	}
	expect(t, x, due(0, 0, 0, 4), due(1, 0, 10, 5))
}

func TestStop(t *testing.T) {
	for n := range 4 {
		x := filled(t, 3, 1, 2, 1)
		expectStop(t, x, id(n, 0))
		all := []api.Due{due(1, 0, 10, 1), due(3, 0, 30, 1), due(2, 0, 20, 2), due(0, 0, 0, 3)}
		expect(t, x, slices.DeleteFunc(all, func(d api.Due) bool { return d.ID.N == n })...)
		expectNone(t, x, id(n, 0))
		expectNone(t, x, id(n, 1))
	}
}

func TestStopTheLastOneAndGoOn(t *testing.T) {
	x := filled(t, 4)
	expectStop(t, x, id(0, 0))
	expect(t, x)
	expectNone(t, x, id(0, 0))
	expectSet(t, x, 6, 1, id(0, 1))
	expect(t, x, due(0, 1, 1, 6))
}

func TestNamesOfNoTimer(t *testing.T) {
	for _, x := range []*timer.Timers{timer.New(), filled(t, 1), filled(t, 5, 3, 5)} {
		for _, n := range append([]api.TimerID{id(x.Len(), 0), id(x.Len()+1, 0), id(0, 1), id(2, 1)}, strangers...) {
			expectNone(t, x, n)
		}
	}
	x := filled(t, 5, 3, 5)
	for _, n := range strangers {
		expectNone(t, x, n)
	}
	expect(t, x, due(1, 0, 10, 3), due(0, 0, 0, 5), due(2, 0, 20, 5))
}

// An old name, and one that is still to come, have the number of a timer that is set.
func TestNamesOfOtherGenerations(t *testing.T) {
	x := filled(t, 5, 6)
	expectStop(t, x, id(0, 0))
	expectSet(t, x, 7, 1, id(0, 1))
	expectStop(t, x, id(0, 1))
	expectSet(t, x, 8, 2, id(0, 2))
	for _, gen := range []int{-1, 0, 1, 3, 4} {
		expectNone(t, x, id(0, gen))
	}
	expect(t, x, due(1, 0, 10, 6), due(0, 2, 2, 8))
}

// P3.3

func TestNextAndLen(t *testing.T) {
	x := filled(t, 8, 6, 7, 6)
	for range 2 {
		if x.Next() != 6 || x.Len() != 4 {
			t.Errorf("Next() = %d, Len() = %d", x.Next(), x.Len())
		}
	}
	expectStop(t, x, id(1, 0))
	if x.Next() != 6 || x.Len() != 3 {
		t.Errorf("Next() = %d, Len() = %d", x.Next(), x.Len())
	}
	expectStop(t, x, id(3, 0))
	if x.Next() != 7 || x.Len() != 2 {
		t.Errorf("Next() = %d, Len() = %d", x.Next(), x.Len())
	}
	expectReset(t, x, id(0, 0), 0)
	if x.Next() != 0 || x.Len() != 2 {
		t.Errorf("Next() = %d, Len() = %d", x.Next(), x.Len())
	}
	expectExpire(t, x, 7, due(0, 0, 0, 0), due(2, 0, 20, 7))
	if x.Next() != never || x.Len() != 0 {
		t.Errorf("Next() = %d, Len() = %d", x.Next(), x.Len())
	}
	expectSet(t, x, never-1, 1, id(0, 1))
	if x.Next() != never-1 {
		t.Errorf("Next() = %d", x.Next())
	}
}

func TestCopy(t *testing.T) {
	x := filled(t, 5, 3, 5, 5)
	expectStop(t, x, id(1, 0))
	c := x.Copy()
	expect(t, c, due(0, 0, 0, 5), due(2, 0, 20, 5), due(3, 0, 30, 5))
	// Each of them gives the next generation of the number 1, and the numbers from 4 on, by itself.
	expectSet(t, x, 1, 1, id(1, 1))
	expectStop(t, x, id(1, 1))
	expectSet(t, x, 2, 2, id(1, 2))
	expectSet(t, x, 4, 4, id(4, 0))
	expectReset(t, x, id(3, 0), 0)
	expectStop(t, x, id(0, 0))
	expect(t, c, due(0, 0, 0, 5), due(2, 0, 20, 5), due(3, 0, 30, 5))
	expectNone(t, c, id(1, 2))
	expectSet(t, c, 5, 9, id(1, 1))
	expectReset(t, c, id(0, 0), 6)
	expectExpire(t, c, 5, due(2, 0, 20, 5), due(3, 0, 30, 5), due(1, 1, 9, 5))
	expect(t, c, due(0, 0, 0, 6))
	expectSet(t, c, 7, 7, id(1, 2))
	expectSet(t, c, 7, 7, id(2, 1))
	expect(t, x, due(3, 0, 30, 0), due(1, 2, 2, 2), due(4, 0, 4, 4), due(2, 0, 20, 5))
	expect(t, timer.New().Copy())
}

func TestCopyOfTimersThatHaveAllExpired(t *testing.T) {
	x := filled(t, 1, 2)
	x.Expire(2)
	c := x.Copy()
	expect(t, c)
	expectNone(t, c, id(0, 0))
	expectSet(t, c, 3, 3, id(0, 1))
	expectSet(t, x, 4, 4, id(0, 1))
	expect(t, c, due(0, 1, 3, 3))
}

// P3.4

func TestExpire(t *testing.T) {
	for _, c := range []struct {
		now  api.Time
		want []int
	}{
		{0, []int{5}}, {1, []int{5}}, {2, []int{5}}, {3, []int{5, 1, 3}}, {4, []int{5, 1, 3}}, {5, []int{5, 1, 3, 0}},
		{9, []int{5, 1, 3, 0, 2}}, {1 << 63, []int{5, 1, 3, 0, 2}}, {never - 2, []int{5, 1, 3, 0, 2}}, {never - 1, []int{5, 1, 3, 0, 2, 4}}, {never, nil},
	} {
		times := []api.Time{5, 3, 9, 3, never - 1, 0}
		x := filled(t, times...)
		var want, rest []api.Due
		for i, n := range []int{5, 1, 3, 0, 2, 4} {
			d := due(n, 0, 10*n, times[n])
			if i < len(c.want) && c.want[i] == n {
				want = append(want, d)
			} else {
				rest = append(rest, d)
			}
		}
		expectExpire(t, x, c.now, want...)
		expectExpire(t, x, c.now)
		for _, d := range want {
			expectNone(t, x, d.ID)
		}
		expect(t, x, rest...)
	}
}

func TestExpireOfNone(t *testing.T) {
	x := timer.New()
	for _, now := range []api.Time{0, 1, never - 1, never} {
		expectExpire(t, x, now)
	}
	expect(t, x)
}

func TestNothingIsDueAtNever(t *testing.T) {
	x := filled(t, 0, 5, never-1)
	for range 2 {
		expectExpire(t, x, never)
	}
	expect(t, x, due(0, 0, 0, 0), due(1, 0, 10, 5), due(2, 0, 20, never-1))
}

// A timer may be set for a time at which others have expired, and is then due at once.
func TestExpireAgainAtTheSameTime(t *testing.T) {
	x := filled(t, 5)
	expectExpire(t, x, 9, due(0, 0, 0, 5))
	expectSet(t, x, 9, 1, id(0, 1))
	expectSet(t, x, 2, 2, id(1, 0))
	expectExpire(t, x, 9, due(1, 0, 2, 2), due(0, 1, 1, 9))
	expectSet(t, x, 1, 3, id(0, 2))
	expectExpire(t, x, 1, due(0, 2, 3, 1))
}

// A number that is used again does not put a timer before older ones for the same time.
func TestOrderOfNumbersThatAreUsedAgain(t *testing.T) {
	x := filled(t, 7, 7, 7)
	expectStop(t, x, id(0, 0))
	expectSet(t, x, 7, 3, id(0, 1))
	expectStop(t, x, id(1, 0))
	expectSet(t, x, 8, 4, id(1, 1))
	expectReset(t, x, id(1, 1), 7)
	expectExpire(t, x, 7, due(2, 0, 20, 7), due(0, 1, 3, 7), due(1, 1, 4, 7))
}

func TestWhatHasExpiredIsACopy(t *testing.T) {
	x := filled(t, 1, 2, 3)
	first := x.Expire(1)
	second := x.Expire(2)
	clear(first)
	_ = append(first[:0], due(9, 9, 9, 9), due(9, 9, 9, 9))
	if !slices.Equal(second, []api.Due{due(1, 0, 10, 2)}) {
		t.Error("what has expired has changed", second)
	}
	expect(t, x, due(2, 0, 20, 3))
}

// P3.5

// model is timers that look at all of them whenever they are asked: those that are set are in the order in which they were set.
type model struct {
	set  []api.Due
	gens map[int]int
}

func (m *model) copy() *model {
	c := &model{slices.Clone(m.set), map[int]int{}}
	for n, gen := range m.gens {
		c.gens[n] = gen
	}
	return c
}

func (m *model) at(n api.TimerID) int {
	return slices.IndexFunc(m.set, func(d api.Due) bool { return d.ID == n })
}

func (m *model) add(at api.Time, owner int) api.TimerID {
	n := 0
	for slices.ContainsFunc(m.set, func(d api.Due) bool { return d.ID.N == n }) {
		n++
	}
	m.set = append(m.set, due(n, m.gens[n], owner, at))
	m.gens[n]++
	return id(n, m.gens[n]-1)
}

func (m *model) ordered() []api.Due {
	l := slices.Clone(m.set)
	slices.SortStableFunc(l, func(a, b api.Due) int {
		switch {
		case a.At < b.At:
			return -1
		case a.At > b.At:
			return 1
		}
		return 0
	})
	return l
}

func (m *model) expire(now api.Time) []api.Due {
	var l []api.Due
	for _, d := range m.ordered() {
		if d.At <= now && now != never {
			l = append(l, d)
			m.set = slices.Delete(m.set, m.at(d.ID), m.at(d.ID)+1)
		}
	}
	return l
}

// somebody returns the name of a timer that is set, or one that may be that of none.
func (m *model) somebody(random *rand.Rand) api.TimerID {
	if len(m.set) > 0 && random.Intn(3) > 0 {
		return m.set[random.Intn(len(m.set))].ID
	}
	return id(random.Intn(len(m.set)+3)-1, random.Intn(4))
}

// someTime returns a time.
func someTime(random *rand.Rand) api.Time {
	if random.Intn(12) == 0 {
		return never - api.Time(random.Intn(3))
	}
	return api.Time(random.Intn(20))
}

// walk makes one random step with timers and their model.
func walk(t *testing.T, random *rand.Rand, x *timer.Timers, m *model, most int) {
	t.Helper()
	at, n := someTime(random), m.somebody(random)
	i := m.at(n)
	want := api.OK
	if i < 0 {
		want = api.ErrNone
	}
	switch random.Intn(8) {
	case 0, 1, 2:
		if at == never || len(m.set) == most {
			return
		}
		owner := random.Int()
		expectSet(t, x, at, owner, m.add(at, owner))
	case 3, 4:
		if at == never {
			return
		}
		if e := x.Reset(n, at); e != want {
			t.Errorf("Reset(%d, %d) = %d, not %d", n, at, e, want)
		}
		if i >= 0 {
			m.set[i].At = at
		}
	case 5, 6:
		if e := x.Stop(n); e != want {
			t.Errorf("Stop(%d) = %d, not %d", n, e, want)
		}
		if i >= 0 {
			m.set = slices.Delete(m.set, i, i+1)
		}
	case 7:
		expectExpire(t, x, at/2, m.expire(at/2)...)
	}
}

func TestWalksAgreeWithTheModel(t *testing.T) {
	for seed, most := range []int{1, 2, 3, 5, 8, 21, 30, 70} {
		random := rand.New(rand.NewSource(int64(seed)))
		x, m := timer.New(), &model{gens: map[int]int{}}
		for step := range 1500 {
			walk(t, random, x, m, most)
			expect(t, x, m.ordered()...)
			if step%100 == 50 {
				x, m = x.Copy(), m.copy()
			}
			if t.Failed() {
				t.Fatalf("walk %d: step %d", seed, step)
			}
		}
	}
}

// scattered returns timers with some history.
func scattered(random *rand.Rand) *timer.Timers {
	x := timer.New()
	for i := range 60 {
		n, _ := x.Set(someTime(random), i)
		switch random.Intn(4) {
		case 0:
			x.Stop(n)
		case 1:
			x.Reset(n, someTime(random))
		}
	}
	return x
}

func TestWhatIsExpiredIsDueAndWhatStaysIsNot(t *testing.T) {
	random := rand.New(rand.NewSource(7))
	for range 100 {
		x := scattered(random)
		for _, now := range []api.Time{0, 3, 4, 11, 19, 1 << 62, never - 3, never - 2, never - 1} {
			last := api.Time(0)
			for _, d := range x.Expire(now) {
				if d.At > now || d.At < last {
					t.Fatalf("at %d, %d has expired after one for %d", now, d, last)
				}
				last = d.At
			}
			if x.Next() <= now {
				t.Fatalf("after what has expired at %d, Next() = %d", now, x.Next())
			}
		}
		if x.Len() != 0 || x.Next() != never {
			t.Fatalf("%d are left, Next() = %d", x.Len(), x.Next())
		}
	}
}

func TestExpireInPartsAsAtOnce(t *testing.T) {
	random := rand.New(rand.NewSource(8))
	for range 200 {
		x := scattered(random)
		y := x.Copy()
		first := api.Time(random.Intn(20))
		second := first + api.Time(random.Intn(20))
		parts := slices.Concat(x.Expire(first), x.Expire(second))
		if whole := y.Expire(second); !slices.Equal(parts, whole) {
			t.Fatalf("at %d and %d: %d, not %d", first, second, parts, whole)
		}
		expect(t, x, y.Copy().Expire(never-1)...)
	}
}

func TestNoNameIsGivenTwice(t *testing.T) {
	random := rand.New(rand.NewSource(9))
	x := timer.New()
	seen := map[api.TimerID]bool{}
	var names []api.TimerID
	for step := range 5000 {
		n, e := x.Set(api.Time(step+random.Intn(40)), step)
		if e != api.OK || seen[n] {
			t.Fatalf("step %d: %d, %d, and it had been given: %v", step, n, e, seen[n])
		}
		seen[n] = true
		names = append(names, n)
		x.Stop(names[random.Intn(len(names))])
		x.Expire(api.Time(step))
	}
	for _, n := range names {
		x.Stop(n)
		expectNone(t, x, n)
	}
	expect(t, x)
}

// Nil and zero objects, and P1

func TestTimersThatAreNilOrZero(t *testing.T) {
	var none *timer.Timers
	for i, x := range []*timer.Timers{none, {}, new(timer.Timers)} {
		for _, at := range []api.Time{0, 1, never - 1, never} {
			if n, e := x.Set(at, 1); n != id(0, 0) || e != api.ErrNil {
				t.Errorf("%d: Set(%d, 1) = %d, %d", i, at, n, e)
			}
			for _, n := range append([]api.TimerID{id(0, 0)}, strangers...) {
				if e := x.Reset(n, at); e != api.ErrNil {
					t.Errorf("%d: Reset(%d, %d) = %d", i, n, at, e)
				}
			}
			if l := x.Expire(at); len(l) != 0 {
				t.Errorf("%d: Expire(%d) = %d", i, at, l)
			}
		}
		for _, n := range append([]api.TimerID{id(0, 0)}, strangers...) {
			if at, owner, e := x.Get(n); at != 0 || owner != 0 || e != api.ErrNil {
				t.Errorf("%d: Get(%d) = %d, %d, %d", i, n, at, owner, e)
			}
			if e := x.Stop(n); e != api.ErrNil {
				t.Errorf("%d: Stop(%d) = %d", i, n, e)
			}
		}
		if x.Next() != never || x.Len() != 0 || x.Copy() != nil {
			t.Errorf("%d: Next() = %d, Len() = %d, Copy() = %v", i, x.Next(), x.Len(), x.Copy())
		}
	}
}

func TestStructsThatAreCopiedDoNotPanic(t *testing.T) {
	x := filled(t, 5, 3, 5)
	twin := *x
	for i := range 3 {
		x.Stop(id(i, 0))
		twin.Set(1, 1)
		twin.Reset(id(0, 1), 4)
		twin.Stop(id(0, 1))
		for range 8 {
			x.Set(2, 2)
		}
		twin.Get(id(6, 0))
		twin.Copy().Expire(2)
		twin.Next()
	}
	x.Expire(9)
	twin.Set(1, 1)
	twin.Expire(9)
	x.Set(1, 1)
}
