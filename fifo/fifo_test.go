package fifo_test

import (
	"iter"
	"math"
	"math/rand"
	"slices"
	"testing"

	"aqueduct/api"
	"aqueduct/fifo"
)

// strangers are numbers that are never tickets of a queue to which fewer than MaxQueue values were added.
var strangers = []uint64{0, fifo.MaxQueue, fifo.MaxQueue + 1, 1<<16 + 1, 1 << 32, 1<<32 + 1, 1 << 63, 1<<63 + 1, math.MaxUint64 - 1, math.MaxUint64}

// pair is a value with its ticket.
type pair struct {
	ticket uint64
	value  int
}

// pairs returns what an iterator goes over.
func pairs(all iter.Seq2[uint64, int]) []pair {
	var l []pair
	for ticket, value := range all {
		l = append(l, pair{ticket, value})
	}
	return l
}

// without returns the pairs without the one at an index.
func without(l []pair, i int) []pair { return slices.Delete(slices.Clone(l), i, i+1) }

// filled returns a queue with some values, which have the tickets from 1 on.
func filled(t *testing.T, values ...int) *fifo.Queue {
	t.Helper()
	q := fifo.New()
	for i, v := range values {
		expectPush(t, q, v, uint64(i+1))
	}
	return q
}

// full returns a queue with MaxQueue values, which are ten times their tickets.
func full(t *testing.T) (*fifo.Queue, []pair) {
	t.Helper()
	q := fifo.New()
	var l []pair
	for i := 1; i <= fifo.MaxQueue; i++ {
		expectPush(t, q, 10*i, uint64(i))
		l = append(l, pair{uint64(i), 10 * i})
	}
	return q, l
}

// expect checks that a queue has some pairs, in order, and that everything it says of itself agrees with that.
func expect(t *testing.T, q *fifo.Queue, want ...pair) {
	t.Helper()
	if l := pairs(q.All()); !slices.Equal(l, want) {
		t.Errorf("All: %d, not %d", l, want)
	}
	if q.Len() != len(want) {
		t.Errorf("Len() = %d, not %d", q.Len(), len(want))
	}
	front, code := pair{}, api.ErrNone
	if len(want) > 0 {
		front, code = want[0], api.OK
	}
	if v, n, e := q.Front(); v != front.value || n != front.ticket || e != code {
		t.Errorf("Front() = %d, %d, %d of %d", v, n, e, want)
	}
	for i, p := range want {
		if n, e := q.Place(p.ticket); n != i || e != api.OK {
			t.Errorf("Place(%d) = %d, %d of %d", p.ticket, n, e, want)
		}
	}
}

// expectNone checks that no value has a ticket, and that asking for it changes nothing.
func expectNone(t *testing.T, q *fifo.Queue, ticket uint64) {
	t.Helper()
	before := pairs(q.All())
	if n, e := q.Place(ticket); n != 0 || e != api.ErrNone {
		t.Errorf("Place(%d) = %d, %d", ticket, n, e)
	}
	if v, e := q.Remove(ticket); v != 0 || e != api.ErrNone {
		t.Errorf("Remove(%d) = %d, %d", ticket, v, e)
	}
	expect(t, q, before...)
}

func expectPush(t *testing.T, q *fifo.Queue, value int, want uint64) {
	t.Helper()
	if n, e := q.Push(value); n != want || e != api.OK {
		t.Errorf("Push(%d) = %d, %d, not %d", value, n, e, want)
	}
}

func expectFull(t *testing.T, q *fifo.Queue) {
	t.Helper()
	for _, value := range []int{0, 1, -1} {
		if n, e := q.Push(value); n != 0 || e != api.ErrFull {
			t.Errorf("Push(%d) into a full queue = %d, %d", value, n, e)
		}
	}
}

func expectPop(t *testing.T, q *fifo.Queue, value int, ticket uint64) {
	t.Helper()
	if v, n, e := q.Pop(); v != value || n != ticket || e != api.OK {
		t.Errorf("Pop() = %d, %d, %d, not %d, %d", v, n, e, value, ticket)
	}
}

func expectRemove(t *testing.T, q *fifo.Queue, ticket uint64, want int) {
	t.Helper()
	if v, e := q.Remove(ticket); v != want || e != api.OK {
		t.Errorf("Remove(%d) = %d, %d, not %d", ticket, v, e, want)
	}
}

// expectEmpty checks that nothing can be taken from a queue.
func expectEmpty(t *testing.T, q *fifo.Queue) {
	t.Helper()
	for range 2 {
		if v, n, e := q.Pop(); v != 0 || n != 0 || e != api.ErrNone {
			t.Errorf("Pop() of an empty queue = %d, %d, %d", v, n, e)
		}
		expect(t, q)
	}
}

// The examples

func TestExamples(t *testing.T) {
	q := fifo.New()
	expectEmpty(t, q)
	expectPush(t, q, 7, 1)
	expectPush(t, q, 8, 2)
	expectPush(t, q, 9, 3)
	if v, n, e := q.Front(); v != 7 || n != 1 || e != api.OK {
		t.Errorf("Front() = %d, %d, %d", v, n, e)
	}
	if n, e := q.Place(3); n != 2 || e != api.OK {
		t.Errorf("Place(3) = %d, %d", n, e)
	}
	expectRemove(t, q, 2, 8)
	if n, e := q.Place(3); n != 1 || e != api.OK {
		t.Errorf("Place(3) = %d, %d", n, e)
	}
	expectNone(t, q, 2)
	expectPop(t, q, 7, 1)
	expectPush(t, q, 5, 4)
	if q.Len() != 2 {
		t.Errorf("Len() = %d", q.Len())
	}
	expect(t, q, pair{3, 9}, pair{4, 5})
}

// P6.1

func TestNew(t *testing.T) {
	a, b := fifo.New(), fifo.New()
	expectEmpty(t, a)
	expectPush(t, a, 3, 1)
	expectPush(t, a, 4, 2)
	expect(t, a, pair{1, 3}, pair{2, 4})
	expectEmpty(t, b)
	expectPush(t, b, 5, 1)
	expect(t, b, pair{1, 5})
}

func TestPushOfAnyValues(t *testing.T) {
	q := fifo.New()
	var want []pair
	for i, value := range []int{0, -1, math.MinInt, math.MaxInt, 7, 7, 0, 1 << 40, -1 << 40, 7} {
		expectPush(t, q, value, uint64(i+1))
		want = append(want, pair{uint64(i + 1), value})
		expect(t, q, want...)
	}
	for _, p := range want {
		expectPop(t, q, p.value, p.ticket)
	}
	expectEmpty(t, q)
}

func TestTicketsAreNeverGivenTwice(t *testing.T) {
	q := filled(t, 10, 20, 30)
	expectRemove(t, q, 3, 30)
	expectPush(t, q, 40, 4)
	expectRemove(t, q, 1, 10)
	expectPush(t, q, 50, 5)
	expect(t, q, pair{2, 20}, pair{4, 40}, pair{5, 50})
	expectPop(t, q, 20, 2)
	expectPop(t, q, 40, 4)
	expectPop(t, q, 50, 5)
	expectEmpty(t, q)
	expectPush(t, q, 60, 6)
	expect(t, q, pair{6, 60})
	for ticket := range uint64(6) {
		expectNone(t, q, ticket)
	}
}

func TestPushIntoAFullQueue(t *testing.T) {
	q, all := full(t)
	expectFull(t, q)
	expect(t, q, all...)
	expectNone(t, q, fifo.MaxQueue+1)
	// What was refused has got no ticket.
	expectPop(t, q, 10, 1)
	expectPush(t, q, 5, fifo.MaxQueue+1)
	expectFull(t, q)
	expectRemove(t, q, 2000, 20000)
	expectRemove(t, q, fifo.MaxQueue+1, 5)
	expectPush(t, q, 6, fifo.MaxQueue+2)
	expectPush(t, q, 7, fifo.MaxQueue+3)
	expectFull(t, q)
	expect(t, q, append(without(all, 1999)[1:], pair{fifo.MaxQueue + 2, 6}, pair{fifo.MaxQueue + 3, 7})...)
}

func TestMoreThanMaxQueueOneAfterTheOther(t *testing.T) {
	q := filled(t, 1, 2, 3)
	for i := 4; i < 5*fifo.MaxQueue; i++ {
		expectPush(t, q, i, uint64(i))
		expectPop(t, q, i-3, uint64(i-3))
	}
	last := uint64(5*fifo.MaxQueue - 1)
	expect(t, q, pair{last - 2, int(last) - 2}, pair{last - 1, int(last) - 1}, pair{last, int(last)})
}

func TestLen(t *testing.T) {
	q := fifo.New()
	for i := range 5 {
		if q.Len() != i {
			t.Errorf("Len() = %d, not %d", q.Len(), i)
		}
		q.Push(i)
	}
	q.Remove(3)
	q.Remove(3)
	q.Front()
	if q.Len() != 4 {
		t.Errorf("Len() = %d, not 4", q.Len())
	}
	for i := range 6 {
		q.Pop()
		if n := max(0, 3-i); q.Len() != n {
			t.Errorf("Len() = %d, not %d", q.Len(), n)
		}
	}
}

// P6.2

func TestPop(t *testing.T) {
	q := filled(t, 5, 3, 5, 0)
	expectPop(t, q, 5, 1)
	expect(t, q, pair{2, 3}, pair{3, 5}, pair{4, 0})
	expectPop(t, q, 3, 2)
	expectPush(t, q, 8, 5)
	expect(t, q, pair{3, 5}, pair{4, 0}, pair{5, 8})
	expectPop(t, q, 5, 3)
	expectPop(t, q, 0, 4)
	expectNone(t, q, 4)
	expectPop(t, q, 8, 5)
	expectEmpty(t, q)
}

func TestFrontChangesNothing(t *testing.T) {
	q := filled(t, 5, 3)
	for range 3 {
		if v, n, e := q.Front(); v != 5 || n != 1 || e != api.OK {
			t.Errorf("Front() = %d, %d, %d", v, n, e)
		}
	}
	expect(t, q, pair{1, 5}, pair{2, 3})
	expectPop(t, q, 5, 1)
	if v, n, e := q.Front(); v != 3 || n != 2 || e != api.OK {
		t.Errorf("Front() = %d, %d, %d", v, n, e)
	}
}

func TestEmptyQueues(t *testing.T) {
	popped, removed := filled(t, 1), filled(t, 1, 2)
	popped.Pop()
	removed.Remove(1)
	removed.Remove(2)
	for _, q := range []*fifo.Queue{fifo.New(), popped, removed} {
		expectEmpty(t, q)
		for _, ticket := range append([]uint64{1, 2, 3}, strangers...) {
			expectNone(t, q, ticket)
		}
	}
	expectPush(t, popped, 9, 2)
	expect(t, popped, pair{2, 9})
	expectPush(t, removed, 9, 3)
	expect(t, removed, pair{3, 9})
}

// P6.3

// leave removes what is left of a queue in each order, and checks it after each one.
func leave(t *testing.T, q *fifo.Queue, left []pair) {
	t.Helper()
	for i, p := range left {
		c := q.Copy()
		expectRemove(t, c, p.ticket, p.value)
		rest := without(left, i)
		expect(t, c, rest...)
		expectNone(t, c, p.ticket)
		leave(t, c, rest)
	}
	if len(left) == 0 {
		expectEmpty(t, q)
	}
	expect(t, q, left...)
	n, _ := q.Push(77)
	expect(t, q, append(slices.Clone(left), pair{n, 77})...)
}

func TestRemoveInEachOrder(t *testing.T) {
	leave(t, filled(t, 50, 30, 50, -1, 0), []pair{{1, 50}, {2, 30}, {3, 50}, {4, -1}, {5, 0}})
}

func TestNumbersThatAreNoTickets(t *testing.T) {
	q := filled(t, 5, 3, 5)
	for _, ticket := range append([]uint64{4, 5}, strangers...) {
		expectNone(t, q, ticket)
	}
	q.Pop()
	q.Remove(3)
	for _, ticket := range append([]uint64{1, 3, 4}, strangers...) {
		expectNone(t, q, ticket)
	}
	expect(t, q, pair{2, 3})
}

func TestPlace(t *testing.T) {
	q, all := full(t)
	// Every third one leaves: of n values, there were n / 3 that had a number which can be divided by 3.
	for i := 3; i <= fifo.MaxQueue; i += 3 {
		expectRemove(t, q, uint64(i), 10*i)
	}
	for _, p := range all {
		n := int(p.ticket)
		place, e := q.Place(p.ticket)
		if n%3 == 0 && (place != 0 || e != api.ErrNone) || n%3 != 0 && (place != n-1-n/3 || e != api.OK) {
			t.Errorf("Place(%d) = %d, %d", n, place, e)
		}
	}
}

// P6.4

func TestAllIsAsWhenItWasCalled(t *testing.T) {
	q, none := filled(t, 5, 3, 4), fifo.New()
	all, empty := q.All(), none.All()
	q.Remove(2)
	q.Push(9)
	q.Pop()
	none.Push(1)
	for range 2 {
		if l := pairs(all); !slices.Equal(l, []pair{{1, 5}, {2, 3}, {3, 4}}) {
			t.Error("an iterator has changed", l)
		}
		if l := pairs(empty); len(l) != 0 {
			t.Error("an empty iterator has changed", l)
		}
	}
	expect(t, q, pair{3, 4}, pair{4, 9})
}

func TestAllInLoopsThatStopOrAreNested(t *testing.T) {
	all := filled(t, 5, 3, 4).All()
	want := []pair{{1, 5}, {2, 3}, {3, 4}}
	for stop := range 5 {
		var l []pair
		for ticket, value := range all {
			if len(l) == stop {
				break
			}
			l = append(l, pair{ticket, value})
		}
		if !slices.Equal(l, want[:min(stop, 3)]) {
			t.Errorf("until %d: %d", stop, l)
		}
	}
	var sums []int
	for ticket := range all {
		for _, value := range all {
			sums = append(sums, 10*int(ticket)+value)
		}
	}
	if !slices.Equal(sums, []int{15, 13, 14, 25, 23, 24, 35, 33, 34}) {
		t.Error("nested:", sums)
	}
}

func TestAllWhileTheQueueChanges(t *testing.T) {
	q := filled(t, 5, 3, 4)
	var l []pair
	for ticket, value := range q.All() {
		l = append(l, pair{ticket, value})
		expectRemove(t, q, ticket, value)
		q.Push(value + 1)
	}
	if !slices.Equal(l, []pair{{1, 5}, {2, 3}, {3, 4}}) {
		t.Error(l)
	}
	expect(t, q, pair{4, 6}, pair{5, 4}, pair{6, 5})
}

func TestCopy(t *testing.T) {
	q := filled(t, 5, 3, 4, 6)
	q.Remove(2)
	c := q.Copy()
	expect(t, c, pair{1, 5}, pair{3, 4}, pair{4, 6})
	q.Remove(3)
	q.Push(8)
	q.Pop()
	expect(t, q, pair{4, 6}, pair{5, 8})
	expect(t, c, pair{1, 5}, pair{3, 4}, pair{4, 6})
	expectNone(t, c, 2)
	// The copy goes on counting from the same ticket.
	c.Remove(4)
	expectPush(t, c, 9, 5)
	expectPush(t, c, 10, 6)
	expectPop(t, c, 5, 1)
	expect(t, c, pair{3, 4}, pair{5, 9}, pair{6, 10})
	expect(t, q, pair{4, 6}, pair{5, 8})
	expect(t, c.Copy(), pair{3, 4}, pair{5, 9}, pair{6, 10})
	expectPush(t, c.Copy(), 1, 7)
}

func TestCopyOfEmptyAndFullQueues(t *testing.T) {
	expectEmpty(t, fifo.New().Copy())
	expectPush(t, fifo.New().Copy(), 1, 1)
	gone := filled(t, 1, 2)
	gone.Pop()
	gone.Pop()
	c := gone.Copy()
	expectEmpty(t, c)
	expectPush(t, c, 3, 3)
	expect(t, c, pair{3, 3})
	expectEmpty(t, gone)
	q, all := full(t)
	c = q.Copy()
	expectFull(t, c)
	c.Pop()
	expectFull(t, q)
	expect(t, q, all...)
	expect(t, c, all[1:]...)
}

// P6.5

// model is a queue that looks at all of its values whenever it is asked.
type model struct {
	left  []pair
	given uint64
}

func (m *model) at(ticket uint64) int {
	return slices.IndexFunc(m.left, func(p pair) bool { return p.ticket == ticket })
}

// step makes one random step with a queue and its model, which get no more than a number of values.
func (m *model) step(t *testing.T, random *rand.Rand, q *fifo.Queue, most int) {
	t.Helper()
	switch random.Intn(5) {
	case 0, 1:
		if len(m.left) == most {
			return
		}
		m.given++
		p := pair{m.given, random.Int() - random.Int()}
		m.left = append(m.left, p)
		expectPush(t, q, p.value, p.ticket)
	case 2:
		if len(m.left) == 0 {
			expectEmpty(t, q)
			return
		}
		expectPop(t, q, m.left[0].value, m.left[0].ticket)
		m.left = m.left[1:]
	case 3:
		if len(m.left) > 0 {
			i := random.Intn(len(m.left))
			expectRemove(t, q, m.left[i].ticket, m.left[i].value)
			m.left = without(m.left, i)
		}
	case 4:
		if ticket := uint64(random.Intn(int(m.given) + 2)); m.at(ticket) < 0 {
			expectNone(t, q, ticket)
		}
	}
}

func TestWalksAgreeWithTheModel(t *testing.T) {
	for seed, most := range []int{1, 2, 3, 4, 5, 8, 20, 60} {
		random := rand.New(rand.NewSource(int64(seed)))
		q, m := fifo.New(), &model{}
		for step := range 2000 {
			m.step(t, random, q, most)
			expect(t, q, m.left...)
			if step%100 == 50 {
				q = q.Copy()
			}
			if t.Failed() {
				t.Fatalf("walk %d: step %d", seed, step)
			}
		}
	}
}

func TestValuesComeOutInTheOrderInWhichTheyCame(t *testing.T) {
	random := rand.New(rand.NewSource(6))
	q, all := full(t)
	removed := map[uint64]bool{}
	for range 3000 {
		ticket := uint64(random.Intn(fifo.MaxQueue) + 1)
		if !removed[ticket] {
			removed[ticket] = true
			expectRemove(t, q, ticket, 10*int(ticket))
		}
	}
	last := uint64(0)
	for _, p := range all {
		if removed[p.ticket] {
			continue
		}
		_, front, _ := q.Front()
		if place, e := q.Place(front); front <= last || place != 0 || e != api.OK {
			t.Fatalf("the front has the ticket %d after %d, and the place %d, %d", front, last, place, e)
		}
		last = front
		expectPop(t, q, p.value, p.ticket)
	}
	expectEmpty(t, q)
}

// Nil and zero objects, and P1

func TestQueuesThatAreNilOrZero(t *testing.T) {
	var none *fifo.Queue
	for i, q := range []*fifo.Queue{none, {}, new(fifo.Queue)} {
		for range 2 {
			if n, e := q.Push(1); n != 0 || e != api.ErrNil {
				t.Errorf("%d: Push(1) = %d, %d", i, n, e)
			}
			if v, n, e := q.Pop(); v != 0 || n != 0 || e != api.ErrNil {
				t.Errorf("%d: Pop() = %d, %d, %d", i, v, n, e)
			}
			if v, n, e := q.Front(); v != 0 || n != 0 || e != api.ErrNil {
				t.Errorf("%d: Front() = %d, %d, %d", i, v, n, e)
			}
			for _, ticket := range append([]uint64{1, 2}, strangers...) {
				if v, e := q.Remove(ticket); v != 0 || e != api.ErrNil {
					t.Errorf("%d: Remove(%d) = %d, %d", i, ticket, v, e)
				}
				if n, e := q.Place(ticket); n != 0 || e != api.ErrNil {
					t.Errorf("%d: Place(%d) = %d, %d", i, ticket, n, e)
				}
			}
			if q.Len() != 0 || q.Copy() != nil {
				t.Errorf("%d: Len() = %d, Copy() = %v", i, q.Len(), q.Copy())
			}
			all := q.All()
			if all == nil || len(pairs(all)) != 0 || len(pairs(all)) != 0 {
				t.Errorf("%d: All is not an iterator over nothing", i)
			}
		}
	}
}

func TestStructsThatAreCopiedDoNotPanic(t *testing.T) {
	q := filled(t, 5, 3, 5)
	twin := *q
	for i := range uint64(5) {
		q.Remove(i)
		twin.Push(1)
		twin.Pop()
		q.Push(2)
		twin.Place(i)
		q.Pop()
		twin.Front()
	}
	for ticket := range twin.All() {
		twin.Copy().Remove(ticket)
		q.Remove(ticket)
	}
}
