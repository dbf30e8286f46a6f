package deadline_test

import (
	"cmp"
	"maps"
	"math"
	"math/rand"
	"slices"
	"testing"

	"aqueduct/api"
	"aqueduct/deadline"
)

const (
	never = api.Never
	last  = never - 1 // the last time that a clock can show
)

// read returns the spot of a descriptor for reading.
func read(fd int) api.Spot { return api.Spot{FD: fd, Dir: api.DirRead} }

// write returns the spot of a descriptor for writing.
func write(fd int) api.Spot { return api.Spot{FD: fd, Dir: api.DirWrite} }

// spots returns all spots, by descriptors and directions.
func spots() []api.Spot {
	var l []api.Spot
	for fd := range api.MaxFiles {
		l = append(l, read(fd), write(fd))
	}
	return l
}

// scrambled returns all spots, in an order that is neither that of the descriptors nor that of the directions.
func scrambled() []api.Spot {
	var l []api.Spot
	all := spots()
	for i := range all {
		l = append(l, all[(i*93+41)%len(all)])
	}
	return l
}

// numbers are numbers that no descriptor has.
var numbers = []int{-1, -2, -api.MaxFiles, math.MinInt, api.MaxFiles, api.MaxFiles + 1, 255, 256, 1 << 16, 1 << 32, 1<<32 + 1, -1 << 32, math.MaxInt}

// invalid returns spots that are not valid, because of the descriptor, of the direction, or of both.
func invalid() []api.Spot {
	var l []api.Spot
	for _, n := range numbers {
		l = append(l, read(n), write(n), api.Spot{FD: n, Dir: 2}, api.Spot{FD: n, Dir: -1})
	}
	for _, d := range []int{-1, -2, 2, 3, 127, 128, 256, 257, 1 << 32, 1<<32 + 1, -1 << 32, math.MinInt, math.MaxInt} {
		l = append(l, api.Spot{FD: 0, Dir: api.Dir(d)}, api.Spot{FD: 5, Dir: api.Dir(d)}, api.Spot{FD: 127, Dir: api.Dir(d)})
	}
	return l
}

// times are the deadlines of some spots; those of the others are Never.
type times map[api.Spot]api.Time

// get returns the deadline of a spot.
func (m times) get(at api.Spot) api.Time {
	if x, ok := m[at]; ok {
		return x
	}
	return never
}

// between returns those that are later than a time and not later than another one, which is not Never, in order.
func (m times) between(now, to api.Time) []api.Lapse {
	var l []api.Lapse
	for at, x := range m {
		if now < x && x <= to {
			l = append(l, api.Lapse{Spot: at, At: x})
		}
	}
	slices.SortFunc(l, func(a, b api.Lapse) int {
		return cmp.Or(cmp.Compare(a.At, b.At), cmp.Compare(a.Spot.FD, b.Spot.FD), cmp.Compare(a.Spot.Dir, b.Spot.Dir))
	})
	return l
}

// deadlines returns deadlines at a time, all of them Never.
func deadlines(t *testing.T, now api.Time) *deadline.Deadlines {
	t.Helper()
	d, e := deadline.New(now)
	if d == nil || e != api.OK {
		t.Fatalf("New(%d) = %v, %d", now, d, e)
	}
	return d
}

// sets sets a deadline and checks whether it has passed already.
func sets(t *testing.T, d *deadline.Deadlines, at api.Spot, x api.Time, passed bool) {
	t.Helper()
	if p, e := d.Set(at, x); p != passed || e != api.OK {
		t.Errorf("Set(%v, %d) at %d = %t, %d, not %t", at, x, d.Now(), p, e, passed)
	}
}

// clears clears the deadlines of a descriptor.
func clears(t *testing.T, d *deadline.Deadlines, fd int) {
	t.Helper()
	if e := d.Clear(fd); e != api.OK {
		t.Errorf("Clear(%d) = %d", fd, e)
	}
}

// lapse returns a deadline that passes.
func lapse(at api.Spot, x api.Time) api.Lapse { return api.Lapse{Spot: at, At: x} }

// advances sets the time and checks which deadlines pass.
func advances(t *testing.T, d *deadline.Deadlines, to api.Time, want ...api.Lapse) {
	t.Helper()
	if l, e := d.Advance(to); !slices.Equal(l, want) || e != api.OK || d.Now() != to {
		t.Errorf("Advance(%d) = %v, %d, not %v; Now() = %d", to, l, e, want, d.Now())
	}
}

// refusesAdvance checks that Advance returns an error.
func refusesAdvance(t *testing.T, d *deadline.Deadlines, to api.Time, want api.Errno) {
	t.Helper()
	if l, e := d.Advance(to); len(l) != 0 || e != want {
		t.Errorf("Advance(%d) = %v, %d, not %d", to, l, e, want)
	}
}

// refuses checks that Set, Get and Passed return an error for a spot.
func refuses(t *testing.T, d *deadline.Deadlines, at api.Spot, want api.Errno) {
	t.Helper()
	for _, x := range []api.Time{0, 10, last, never} {
		if p, e := d.Set(at, x); p || e != want {
			t.Errorf("Set(%v, %d) = %t, %d, not %d", at, x, p, e, want)
		}
	}
	if x, e := d.Get(at); x != 0 || e != want {
		t.Errorf("Get(%v) = %d, %d, not %d", at, x, e, want)
	}
	if p, e := d.Passed(at); p || e != want {
		t.Errorf("Passed(%v) = %t, %d, not %d", at, p, e, want)
	}
}

// refusesClear checks that Clear returns an error.
func refusesClear(t *testing.T, d *deadline.Deadlines, fd int, want api.Errno) {
	t.Helper()
	if e := d.Clear(fd); e != want {
		t.Errorf("Clear(%d) = %d, not %d", fd, e, want)
	}
}

// expect checks all that can be seen: the time, the deadlines of all spots and whether they have passed, and the first one that has not. Which ones are still to pass is seen from a copy.
func expect(t *testing.T, d *deadline.Deadlines, now api.Time, m times) {
	t.Helper()
	expectAt(t, d, now, m, spots())
}

// expectAt is expect, but for the deadlines of the other spots.
func expectAt(t *testing.T, d *deadline.Deadlines, now api.Time, m times, at []api.Spot) {
	t.Helper()
	if d.Now() != now {
		t.Errorf("Now() = %d, not %d", d.Now(), now)
	}
	for _, at := range at {
		want := m.get(at)
		if x, e := d.Get(at); x != want || e != api.OK {
			t.Errorf("Get(%v) at %d = %d, %d, not %d", at, now, x, e, want)
		}
		if p, e := d.Passed(at); p != (want <= now) || e != api.OK {
			t.Errorf("Passed(%v) of %d at %d = %t, %d", at, want, now, p, e)
		}
	}
	left := m.between(now, last)
	next := never
	if len(left) > 0 {
		next = left[0].At
	}
	if d.Next() != next {
		t.Errorf("Next() at %d = %d, not %d", now, d.Next(), next)
	}
	advances(t, d.Copy(), last, left...)
}

// mixed returns deadlines at 20: at four descriptors, some have passed by Advance, some had passed when they were set, and some are to pass.
func mixed(t *testing.T) *deadline.Deadlines {
	t.Helper()
	d := deadlines(t, 10)
	sets(t, d, write(9), 30, false)
	sets(t, d, read(9), 15, false)
	sets(t, d, read(0), 30, false)
	sets(t, d, write(4), 4, true)
	sets(t, d, write(127), 20, false)
	advances(t, d, 20, lapse(read(9), 15), lapse(write(127), 20))
	sets(t, d, read(4), 20, true)
	sets(t, d, read(127), 25, false)
	expectMixed(t, d)
	return d
}

// mixedTimes returns the deadlines that mixed has set.
func mixedTimes() times {
	return times{read(0): 30, read(4): 20, write(4): 4, read(9): 15, write(9): 30, read(127): 25, write(127): 20}
}

// expectMixed checks that deadlines are those that mixed has returned.
func expectMixed(t *testing.T, d *deadline.Deadlines) {
	t.Helper()
	expect(t, d, 20, mixedTimes())
}

// The examples

func TestExamples(t *testing.T) {
	d := deadlines(t, 10)
	sets(t, d, read(3), 15, false)
	sets(t, d, write(3), 10, true)
	sets(t, d, read(4), 12, false)
	if p, e := d.Passed(write(3)); !p || e != api.OK {
		t.Errorf("Passed(3 write) = %t, %d", p, e)
	}
	if d.Next() != 12 {
		t.Errorf("Next() = %d", d.Next())
	}
	sets(t, d, read(4), 15, false)
	advances(t, d, 14)
	advances(t, d, 15, lapse(read(3), 15), lapse(read(4), 15))
	advances(t, d, 15)
	if p, e := d.Passed(read(3)); !p || e != api.OK {
		t.Errorf("Passed(3 read) = %t, %d", p, e)
	}
	sets(t, d, read(3), 16, false)
	clears(t, d, 4)
	if x, e := d.Get(read(4)); x != never || e != api.OK {
		t.Errorf("Get(4 read) = %d, %d", x, e)
	}
	refusesAdvance(t, d, 14, api.ErrRange)
	refuses(t, d, read(128), api.ErrArg)
	expect(t, d, 15, times{read(3): 16, write(3): 10})
}

// P10.1

func TestNew(t *testing.T) {
	for _, now := range []api.Time{0, 1, 2, 10, 1 << 32, 1 << 63, last - 1, last} {
		expect(t, deadlines(t, now), now, nil)
	}
	if d, e := deadline.New(never); d != nil || e != api.ErrArg {
		t.Errorf("New(never) = %v, %d", d, e)
	}
}

func TestDeadlinesAreIndependent(t *testing.T) {
	a, b := deadlines(t, 10), deadlines(t, 10)
	sets(t, a, read(3), 15, false)
	expect(t, b, 10, nil)
	sets(t, b, write(3), 15, false)
	sets(t, b, read(3), 12, false)
	advances(t, b, 12, lapse(read(3), 12))
	expect(t, a, 10, times{read(3): 15})
	expect(t, b, 12, times{read(3): 12, write(3): 15})
}

func TestCopy(t *testing.T) {
	d := mixed(t)
	c := d.Copy()
	expectMixed(t, c)
	sets(t, d, write(9), never, false)
	sets(t, d, read(9), 40, false)
	sets(t, d, read(1), 26, false)
	clears(t, d, 0)
	advances(t, d, 25, lapse(read(127), 25))
	want := mixedTimes()
	delete(want, read(0))
	delete(want, write(9))
	want[read(9)], want[read(1)] = 40, 26
	expect(t, d, 25, want)
	expectMixed(t, c)
	// The copy goes on from where it was made: with its time, and with deadlines that are replaced.
	sets(t, c, read(0), 31, false)
	sets(t, c, write(4), 32, false)
	clears(t, c, 127)
	advances(t, c, 30, lapse(write(9), 30))
	other := times{read(0): 31, read(4): 20, write(4): 32, read(9): 15, write(9): 30}
	expect(t, c, 30, other)
	expect(t, d, 25, want)
	e := c.Copy()
	advances(t, e, 32, lapse(read(0), 31), lapse(write(4), 32))
	expect(t, e, 32, other)
	expect(t, c, 30, other)
}

func TestCopyOfDeadlinesThatWereNeverSet(t *testing.T) {
	d := deadlines(t, 7)
	c := d.Copy()
	sets(t, c, read(1), 8, false)
	expect(t, d, 7, nil)
	sets(t, d, write(1), 8, false)
	expect(t, c, 7, times{read(1): 8})
	expect(t, d, 7, times{write(1): 8})
}

// P10.2

// inEachState calls a function for new deadlines at 20, for some deadlines that a spot had before: none, one that is to pass, that was removed, that has passed by Advance or that had passed when it was set, and one after the other of these. At each other spot of the descriptors next to it, there is one that is to pass or has passed.
func inEachState(t *testing.T, at api.Spot, do func(d *deadline.Deadlines, m times)) {
	t.Helper()
	for _, before := range [][]api.Time{nil, {25}, {25, never}, {15}, {3}, {25, 15}, {3, 25}, {15, 26}} {
		d := deadlines(t, 10)
		m := times{}
		for fd := at.FD - 1; fd <= at.FD+1; fd++ {
			for _, other := range []api.Spot{read(fd), write(fd)} {
				if other != at {
					m[other] = api.Time(18 + len(m))
					sets(t, d, other, m[other], false)
				}
			}
		}
		for _, x := range before {
			sets(t, d, at, x, x == 3)
			m[at] = x
		}
		advances(t, d, 20, m.between(10, 20)...)
		expect(t, d, 20, m)
		do(d, m)
	}
}

func TestSetInEachState(t *testing.T) {
	for _, x := range []api.Time{0, 1, 15, 19, 20, 21, 25, 26, 1 << 40, last, never} {
		for _, at := range []api.Spot{read(5), write(5), write(126), read(1)} {
			inEachState(t, at, func(d *deadline.Deadlines, m times) {
				for range 2 {
					sets(t, d, at, x, x <= 20)
					m[at] = x
					expect(t, d, 20, m)
				}
				advances(t, d, 30, m.between(20, 30)...)
				expect(t, d, 30, m)
			})
		}
	}
}

func TestClearInEachState(t *testing.T) {
	for _, at := range []api.Spot{read(5), write(5), write(126), read(1)} {
		inEachState(t, at, func(d *deadline.Deadlines, m times) {
			delete(m, read(at.FD))
			delete(m, write(at.FD))
			for range 2 {
				clears(t, d, at.FD)
				expect(t, d, 20, m)
			}
			advances(t, d, 30, m.between(20, 30)...)
			sets(t, d, at, 35, false)
			m[at] = 35
			expect(t, d, 30, m)
		})
	}
}

func TestSetAtEachSpot(t *testing.T) {
	d := deadlines(t, 0)
	m := times{}
	for i, at := range scrambled() {
		m[at] = api.Time(1000 - i*5%37)
		sets(t, d, at, m[at], false)
		expect(t, d, 0, m)
	}
	for i, at := range scrambled() {
		if i%3 == 0 {
			sets(t, d, at, never, false)
			delete(m, at)
		} else {
			m[at] = api.Time(i % 2 * 1500)
			sets(t, d, at, m[at], i%2 == 0)
		}
		expect(t, d, 0, m)
	}
	advances(t, d, 2000, m.between(0, 2000)...)
	expect(t, d, 2000, m)
}

func TestClearOfEachDescriptor(t *testing.T) {
	d := deadlines(t, 10)
	m := times{}
	for _, at := range scrambled() {
		m[at] = api.Time(9 + (at.FD+int(at.Dir))%3)
		sets(t, d, at, m[at], m[at] <= 10)
	}
	for i := range api.MaxFiles {
		fd := (i*37 + 5) % api.MaxFiles
		clears(t, d, fd)
		delete(m, read(fd))
		delete(m, write(fd))
		expect(t, d, 10, m)
	}
	advances(t, d, last)
	expect(t, d, last, nil)
}

func TestSpotsThatAreNotValid(t *testing.T) {
	d := mixed(t)
	for _, at := range invalid() {
		refuses(t, d, at, api.ErrArg)
	}
	for _, fd := range numbers {
		refusesClear(t, d, fd, api.ErrArg)
	}
	expectMixed(t, d)
}

func TestPassedIsAskedAtEachTime(t *testing.T) {
	d := deadlines(t, 0)
	m := times{read(6): 5, write(6): 7, read(7): 0}
	sets(t, d, read(6), 5, false)
	sets(t, d, write(6), 7, false)
	sets(t, d, read(7), 0, true)
	for now := range api.Time(12) {
		if now > 0 {
			advances(t, d, now, m.between(now-1, now)...)
		}
		expect(t, d, now, m)
	}
}

func TestDeadlinesAtTheEndOfTime(t *testing.T) {
	d := deadlines(t, last-2)
	m := times{read(1): last, write(1): last - 1, read(2): last - 2}
	sets(t, d, read(1), last, false)
	sets(t, d, write(1), last-1, false)
	sets(t, d, read(2), last-2, true)
	sets(t, d, write(2), never, false)
	expect(t, d, last-2, m)
	advances(t, d, last-1, lapse(write(1), last-1))
	expect(t, d, last-1, m)
	advances(t, d, last, lapse(read(1), last))
	expect(t, d, last, m)
	sets(t, d, write(1), last, true)
	sets(t, d, read(1), never, false)
	m[write(1)] = last
	delete(m, read(1))
	expect(t, d, last, m)
	advances(t, d, last)
	refusesAdvance(t, d, never, api.ErrArg)
	refusesAdvance(t, d, last-1, api.ErrRange)
	expect(t, d, last, m)
}

// More deadlines are set, one after the other, than there are timers of layer 3.
func TestManyDeadlinesOfASpot(t *testing.T) {
	d := deadlines(t, 0)
	sets(t, d, read(8), 20_000, false)
	for i := range api.Time(3000) {
		sets(t, d, write(8), 10_000+i%7, false)
		if i%3 == 0 {
			clears(t, d, 9)
		}
		sets(t, d, read(9), i+1, false)
		if i%2 == 0 {
			advances(t, d, i+1, lapse(read(9), i+1))
		}
	}
	expect(t, d, 2999, times{read(8): 20_000, write(8): 10_003, read(9): 3000})
	advances(t, d, last, lapse(read(9), 3000), lapse(write(8), 10_003), lapse(read(8), 20_000))
}

// P10.3

func TestNext(t *testing.T) {
	d := deadlines(t, 10)
	next := func(want api.Time) {
		t.Helper()
		for range 2 {
			if d.Next() != want {
				t.Errorf("Next() at %d = %d, not %d", d.Now(), d.Next(), want)
			}
		}
	}
	next(never)
	sets(t, d, read(3), last, false)
	next(last)
	sets(t, d, write(3), 20, false)
	sets(t, d, read(2), 30, false)
	next(20)
	sets(t, d, write(2), 10, true)
	next(20)
	sets(t, d, read(2), 11, false)
	next(11)
	sets(t, d, read(2), 20, false)
	next(20)
	sets(t, d, write(3), 40, false)
	next(20)
	sets(t, d, read(2), 10, true)
	next(40)
	clears(t, d, 3)
	next(never)
	sets(t, d, read(3), 25, false)
	sets(t, d, read(4), 26, false)
	advances(t, d, 24)
	next(25)
	advances(t, d, 25, lapse(read(3), 25))
	next(26)
	advances(t, d, 40, lapse(read(4), 26))
	next(never)
	sets(t, d, read(4), 41, false)
	next(41)
}

// P10.4

func TestAdvance(t *testing.T) {
	m := times{read(3): 20, write(3): 20, read(4): 15, write(2): 20, read(2): 21, write(0): 11, read(127): 11, write(126): 15, read(0): last, write(5): 10, read(6): 0}
	for _, to := range []api.Time{10, 11, 12, 14, 15, 16, 19, 20, 21, 22, 1 << 63, last - 1, last} {
		d := deadlines(t, 10)
		for at, x := range m {
			sets(t, d, at, x, x <= 10)
		}
		want := m.between(10, to)
		advances(t, d, to, want...)
		expect(t, d, to, m)
		for range 2 {
			advances(t, d, to)
		}
		expect(t, d, to, m)
		for _, x := range want {
			if p, e := d.Passed(x.Spot); !p || e != api.OK {
				t.Errorf("Passed(%v) at %d = %t, %d", x.Spot, to, p, e)
			}
		}
	}
}

func TestOrderAtOneTime(t *testing.T) {
	d := deadlines(t, 10)
	for _, at := range scrambled() {
		sets(t, d, at, 11, false)
	}
	var want []api.Lapse
	for _, at := range spots() {
		want = append(want, lapse(at, 11))
	}
	advances(t, d, 11, want...)
	advances(t, d, 12)
}

func TestOrderIsByTimesThenDescriptorsThenDirections(t *testing.T) {
	d := deadlines(t, 0)
	// In an order of setting that agrees with none of the three.
	for _, x := range []api.Lapse{lapse(write(2), 5), lapse(read(1), 7), lapse(read(2), 5), lapse(write(1), 5), lapse(write(0), 7), lapse(read(0), 6), lapse(write(100), 4), lapse(read(127), 4), lapse(read(100), 4)} {
		sets(t, d, x.Spot, x.At, false)
	}
	advances(t, d, 9, lapse(read(100), 4), lapse(write(100), 4), lapse(read(127), 4), lapse(write(1), 5), lapse(read(2), 5), lapse(write(2), 5), lapse(read(0), 6), lapse(write(0), 7), lapse(read(1), 7))
}

func TestAdvanceToTimesThatAreNotAllowed(t *testing.T) {
	d := mixed(t)
	for range 2 {
		for _, to := range []api.Time{0, 1, 10, 15, 19} {
			refusesAdvance(t, d, to, api.ErrRange)
		}
		refusesAdvance(t, d, never, api.ErrArg)
		expectMixed(t, d)
	}
	advances(t, d, 20)
	expectMixed(t, d)
}

func TestWhatHadPassedWhenItWasSet(t *testing.T) {
	d := deadlines(t, 10)
	for i, x := range []api.Time{0, 1, 9, 10} {
		sets(t, d, read(i), x, true)
		sets(t, d, write(i), x, true)
	}
	for _, to := range []api.Time{10, 11, last} {
		advances(t, d, to)
		expect(t, d, to, times{read(0): 0, write(0): 0, read(1): 1, write(1): 1, read(2): 9, write(2): 9, read(3): 10, write(3): 10})
	}
}

func TestListsShareNoMemory(t *testing.T) {
	d := deadlines(t, 0)
	for fd := range 4 {
		sets(t, d, read(fd), api.Time(1+fd/2), false)
	}
	a, _ := d.Advance(1)
	b, _ := d.Advance(2)
	clear(a)
	_ = append(a[:0], lapse(write(9), 9), lapse(write(9), 9), lapse(write(9), 9))
	if !slices.Equal(b, []api.Lapse{lapse(read(2), 2), lapse(read(3), 2)}) {
		t.Error("a list has changed:", b)
	}
	expect(t, d, 2, times{read(0): 1, read(1): 1, read(2): 2, read(3): 2})
}

// P10.5

func TestADeadlineThatWasReplacedNeverPasses(t *testing.T) {
	for _, at := range []api.Spot{read(0), write(0), write(127)} {
		for _, by := range []api.Time{0, 10, 14, 16, last, never} {
			d := deadlines(t, 10)
			sets(t, d, at, 15, false)
			sets(t, d, at, by, by <= 10)
			m := times{at: by}
			advances(t, d, 15, m.between(10, 15)...)
			advances(t, d, last, m.between(15, last)...)
			expect(t, d, last, m)
		}
	}
}

func TestADeadlineThatWasSetAgainPassesOnce(t *testing.T) {
	d := deadlines(t, 10)
	for range 3 {
		sets(t, d, read(2), 15, false)
	}
	advances(t, d, 15, lapse(read(2), 15))
	advances(t, d, 16)
	sets(t, d, read(2), 15, true)
	advances(t, d, 17)
	sets(t, d, read(2), 18, false)
	advances(t, d, 18, lapse(read(2), 18))
	expect(t, d, 18, times{read(2): 18})
}

// The first deadline of all must not be taken for that of a spot that never had one.
func TestASpotThatNeverHadADeadlineStopsNoOther(t *testing.T) {
	for _, first := range spots() {
		d := deadlines(t, 10)
		sets(t, d, first, 15, false)
		m := times{first: 15}
		for _, at := range []api.Spot{read(0), write(0), read(1), write(126), read(127), write(127)} {
			if at == first {
				continue
			}
			sets(t, d, at, never, false)
			sets(t, d, at, 5, true)
			sets(t, d, at, 15, false)
			m[at] = 15
		}
		for _, fd := range []int{64, 63} {
			if fd != first.FD {
				clears(t, d, fd)
			}
		}
		expect(t, d, 10, m)
	}
}

func TestInPartsOrAtOnce(t *testing.T) {
	random := rand.New(rand.NewSource(3))
	for range 50 {
		d := deadlines(t, 5)
		m := times{}
		for range random.Intn(60) {
			at := spots()[random.Intn(2*api.MaxFiles)]
			m[at] = api.Time(random.Intn(40))
			sets(t, d, at, m[at], m[at] <= 5)
		}
		whole := d.Copy()
		var parts []api.Lapse
		for now := api.Time(5); now < 40; now += api.Time(random.Intn(6)) {
			l, e := d.Advance(now)
			if e != api.OK || d.Next() <= d.Now() {
				t.Errorf("Advance(%d) = %v, %d; Next() = %d", now, l, e, d.Next())
			}
			parts = append(parts, l...)
		}
		advances(t, whole, d.Now(), parts...)
		expect(t, whole, d.Now(), m)
		expect(t, d, d.Now(), m)
	}
}

// model is deadlines that look at all of them whenever they are asked.
type model struct {
	now api.Time
	m   times
}

// sets lets deadlines and their model carry out Set.
func (m *model) sets(t *testing.T, d *deadline.Deadlines, at api.Spot, x api.Time) {
	t.Helper()
	sets(t, d, at, x, x <= m.now)
	m.m[at] = x
}

// clears lets deadlines and their model carry out Clear.
func (m *model) clears(t *testing.T, d *deadline.Deadlines, fd int) {
	t.Helper()
	clears(t, d, fd)
	delete(m.m, read(fd))
	delete(m.m, write(fd))
}

// advances lets deadlines and their model carry out Advance.
func (m *model) advances(t *testing.T, d *deadline.Deadlines, to api.Time) {
	t.Helper()
	switch {
	case to == never:
		refusesAdvance(t, d, to, api.ErrArg)
	case to < m.now:
		refusesAdvance(t, d, to, api.ErrRange)
	default:
		advances(t, d, to, m.m.between(m.now, to)...)
		m.now = to
	}
}

// copies returns independent deadlines and their model.
func (m *model) copies(d *deadline.Deadlines) (*deadline.Deadlines, *model) {
	return d.Copy(), &model{m.now, maps.Clone(m.m)}
}

// histories lets deadlines and their model do all things that can be done with some spots and times, some times after each other.
func histories(t *testing.T, d *deadline.Deadlines, m *model, at []api.Spot, clock []api.Time, left int) {
	t.Helper()
	expectAt(t, d, m.now, m.m, at)
	if left == 0 || t.Failed() {
		return
	}
	branch := func(do func(d *deadline.Deadlines, m *model)) {
		twin, other := m.copies(d)
		do(twin, other)
		histories(t, twin, other, at, clock, left-1)
	}
	for _, x := range clock {
		for _, at := range at {
			branch(func(d *deadline.Deadlines, m *model) { m.sets(t, d, at, x) })
		}
		branch(func(d *deadline.Deadlines, m *model) { m.advances(t, d, x) })
	}
	branch(func(d *deadline.Deadlines, m *model) { m.clears(t, d, at[0].FD) })
}

func TestAllShortHistoriesAgreeWithTheModel(t *testing.T) {
	histories(t, deadlines(t, 1), &model{1, times{}}, []api.Spot{read(0)}, []api.Time{1, 2, never}, 4)
	histories(t, deadlines(t, 0), &model{0, times{}}, []api.Spot{write(3), read(3)}, []api.Time{0, 1, 2, never}, 3)
	histories(t, deadlines(t, last-2), &model{last - 2, times{}}, []api.Spot{read(127), write(126), write(127)}, []api.Time{0, last - 1, last, never}, 3)
}

// moment returns a time by chance, most often near a time.
func moment(random *rand.Rand, now api.Time) api.Time {
	switch random.Intn(10) {
	case 0:
		return never
	case 1:
		return api.Time(random.Intn(5))
	}
	return now + api.Time(random.Intn(30)) - 5
}

// step lets deadlines and their model do something by chance.
func step(t *testing.T, random *rand.Rand, d *deadline.Deadlines, m *model, at []api.Spot) {
	t.Helper()
	spot := at[random.Intn(len(at))]
	switch kind := random.Intn(20); {
	case kind < 12:
		m.sets(t, d, spot, moment(random, m.now))
	case kind < 14:
		m.clears(t, d, spot.FD)
	case kind < 18:
		m.advances(t, d, m.now+api.Time(random.Intn(6)))
	case kind < 19:
		m.advances(t, d, moment(random, m.now))
	default:
		wrong := invalid()
		refuses(t, d, wrong[random.Intn(len(wrong))], api.ErrArg)
		refusesClear(t, d, numbers[random.Intn(len(numbers))], api.ErrArg)
	}
}

func TestWalksAgreeWithTheModel(t *testing.T) {
	some := []api.Spot{read(0), write(0), read(1), write(127), read(127)}
	for seed, start := range []api.Time{0, 5, 100, 1 << 32, 1<<63 - 50, never - 5000} {
		for _, at := range [][]api.Spot{some[:1], some, spots()} {
			random := rand.New(rand.NewSource(int64(seed)))
			d, m := deadlines(t, start), &model{start, times{}}
			for i := range 600 {
				step(t, random, d, m, at)
				expectAt(t, d, m.now, m.m, at)
				if i%100 == 50 {
					d, m = m.copies(d)
				}
				if t.Failed() {
					t.Fatalf("walk from %d at %d spots: step %d", start, len(at), i)
				}
			}
			expect(t, d, m.now, m.m)
		}
	}
}

// Nil and zero objects, and P1

func TestDeadlinesThatAreNilOrZero(t *testing.T) {
	var none *deadline.Deadlines
	for i, d := range []*deadline.Deadlines{none, {}, new(deadline.Deadlines)} {
		for range 2 {
			for _, at := range append(invalid(), read(0), write(0), read(127), write(127)) {
				refuses(t, d, at, api.ErrNil)
			}
			for _, fd := range append([]int{0, 1, 127}, numbers...) {
				refusesClear(t, d, fd, api.ErrNil)
			}
			for _, to := range []api.Time{0, 1, last, never} {
				refusesAdvance(t, d, to, api.ErrNil)
			}
			if d.Next() != never || d.Now() != 0 || d.Copy() != nil {
				t.Errorf("%d: Next() = %d, Now() = %d, Copy() = %v", i, d.Next(), d.Now(), d.Copy())
			}
		}
	}
}

func TestAStructThatIsCopiedIsTheSameDeadlines(t *testing.T) {
	d := deadlines(t, 10)
	twin := *d
	sets(t, d, read(2), 15, false)
	sets(t, &twin, write(2), 15, false)
	sets(t, &twin, read(2), 20, false)
	sets(t, d, write(3), 10, true)
	advances(t, &twin, 15, lapse(write(2), 15))
	for _, x := range []*deadline.Deadlines{d, &twin} {
		expect(t, x, 15, times{read(2): 20, write(2): 15, write(3): 10})
	}
	clears(t, d, 2)
	sets(t, &twin, read(3), 16, false)
	advances(t, d, 16, lapse(read(3), 16))
	for _, x := range []*deadline.Deadlines{d, &twin} {
		expect(t, x, 16, times{read(3): 16, write(3): 10})
	}
}
