package heap_test

import (
	"math"
	"math/rand"
	"slices"
	"testing"

	"aqueduct/api"
	"aqueduct/heap"
)

const never = api.Never

// strangers are numbers that are never handles of a small heap.
var strangers = []int{-1, -2, -64, heap.MaxHeap, heap.MaxHeap - 1, heap.MaxHeap + 1, 2 * heap.MaxHeap, 1 << 32, 1 << 40, math.MinInt, math.MaxInt}

// filled returns a heap with elements that have some keys, and ten times their number as values.
func filled(t *testing.T, keys ...api.Time) *heap.Heap {
	t.Helper()
	h := heap.New()
	for i, key := range keys {
		if n, e := h.Push(key, 10*i); n != i || e != api.OK {
			t.Fatalf("Push(%d, %d) = %d, %d", key, 10*i, n, e)
		}
	}
	return h
}

// expect checks that a heap has some handles, in order, and that everything it says of the order agrees with that.
func expect(t *testing.T, h *heap.Heap, want ...int) {
	t.Helper()
	if l := slices.Collect(h.All()); !slices.Equal(l, want) {
		t.Errorf("All: %d, not %d", l, want)
	}
	if h.Len() != len(want) {
		t.Errorf("Len() = %d, not %d", h.Len(), len(want))
	}
	n, e := h.Top()
	if len(want) == 0 && (n != 0 || e != api.ErrNone) || len(want) > 0 && (n != want[0] || e != api.OK) {
		t.Errorf("Top() = %d, %d of %d", n, e, want)
	}
	layout := h.Layout()
	place := map[int]int{}
	for i, n := range want {
		place[n] = i
	}
	if len(layout) != len(want) {
		t.Fatalf("the layout %d is not one of %d", layout, want)
	}
	seen := map[int]bool{}
	for i, n := range layout {
		if _, ok := place[n]; !ok || seen[n] {
			t.Fatalf("the layout %d is not one of %d", layout, want)
		}
		seen[n] = true
		if i > 0 && place[layout[(i-1)/4]] > place[n] {
			t.Errorf("in the layout %d, the element at %d comes before its parent", layout, i)
		}
	}
}

// expectElement checks the key and the value of an element.
func expectElement(t *testing.T, h *heap.Heap, handle int, key api.Time, value int) {
	t.Helper()
	if k, v, e := h.Get(handle); k != key || v != value || e != api.OK {
		t.Errorf("Get(%d) = %d, %d, %d, not %d, %d", handle, k, v, e, key, value)
	}
}

// expectNone checks that a number is not a handle, for any method, and that asking changes nothing.
func expectNone(t *testing.T, h *heap.Heap, n int) {
	t.Helper()
	before := h.Layout()
	if k, v, e := h.Get(n); k != 0 || v != 0 || e != api.ErrNone {
		t.Errorf("Get(%d) = %d, %d, %d", n, k, v, e)
	}
	if e := h.Change(n, 0); e != api.ErrNone {
		t.Errorf("Change(%d, 0) = %d", n, e)
	}
	if e := h.Remove(n); e != api.ErrNone {
		t.Errorf("Remove(%d) = %d", n, e)
	}
	if !slices.Equal(h.Layout(), before) {
		t.Errorf("after asking for %d, the layout %d is %d", n, before, h.Layout())
	}
}

// The examples

func TestExamples(t *testing.T) {
	h := heap.New()
	if n, e := h.Top(); n != 0 || e != api.ErrNone {
		t.Errorf("Top() of an empty heap = %d, %d", n, e)
	}
	for _, c := range []struct {
		key   api.Time
		value int
		want  int
	}{{5, 50, 0}, {3, 30, 1}, {5, 51, 2}} {
		if n, e := h.Push(c.key, c.value); n != c.want || e != api.OK {
			t.Errorf("Push(%d, %d) = %d, %d", c.key, c.value, n, e)
		}
	}
	if n, e := h.Top(); n != 1 || e != api.OK || h.Layout()[0] != 1 {
		t.Errorf("Top() = %d, %d; Layout() = %d", n, e, h.Layout())
	}
	expect(t, h, 1, 0, 2)
	if e := h.Change(2, 1); e != api.OK {
		t.Error("Change(2, 1)", e)
	}
	expect(t, h, 2, 1, 0)
	if e := h.Change(2, 5); e != api.OK {
		t.Error("Change(2, 5)", e)
	}
	expect(t, h, 1, 0, 2)
	if e := h.Remove(0); e != api.OK {
		t.Error("Remove(0)", e)
	}
	expectNone(t, h, 0)
	if n, e := h.Push(9, 90); n != 0 || e != api.OK {
		t.Error("Push(9, 90)", n, e)
	}
	expectElement(t, h, 0, 9, 90)
	expect(t, h, 1, 2, 0)
}

// P2.1

func TestNew(t *testing.T) {
	a, b := heap.New(), heap.New()
	expect(t, a)
	if n, e := a.Push(1, 2); n != 0 || e != api.OK {
		t.Error("Push(1, 2)", n, e)
	}
	expect(t, a, 0)
	expect(t, b)
}

func TestPushKeepsKeysAndValues(t *testing.T) {
	h := heap.New()
	keys := []api.Time{0, never, 1, never - 1, 1 << 63, 1<<63 - 1, 7, 7}
	values := []int{0, -1, math.MinInt, math.MaxInt, 5, 5, -7, 0}
	for i, key := range keys {
		if n, e := h.Push(key, values[i]); n != i || e != api.OK {
			t.Errorf("Push(%d, %d) = %d, %d", key, values[i], n, e)
		}
	}
	for i, key := range keys {
		expectElement(t, h, i, key, values[i])
	}
	expect(t, h, 0, 2, 6, 7, 5, 4, 3, 1)
}

func TestPushOfEqualKeysKeepsTheirOrder(t *testing.T) {
	for _, key := range []api.Time{0, 4, never} {
		h := heap.New()
		var want []int
		for i := range 100 {
			h.Push(key, 0)
			want = append(want, i)
		}
		expect(t, h, want...)
	}
}

func TestPushTakesTheLowestFreeHandle(t *testing.T) {
	h := filled(t, make([]api.Time, 200)...)
	// Out of order, and on both sides of 64 and of 128.
	freed := []int{129, 3, 64, 199, 0, 63, 128, 127}
	for _, n := range freed {
		if e := h.Remove(n); e != api.OK {
			t.Error("Remove", n, e)
		}
	}
	for _, want := range []int{0, 3, 63, 64, 127, 128, 129, 199, 200, 201} {
		if n, e := h.Push(1, 0); n != want || e != api.OK {
			t.Errorf("Push returns %d, %d, not %d", n, e, want)
		}
	}
}

func TestPushAgainUnderAHandleComesLast(t *testing.T) {
	h := filled(t, 5, 5, 5)
	h.Remove(0)
	if n, e := h.Push(5, 77); n != 0 || e != api.OK {
		t.Error("Push", n, e)
	}
	expect(t, h, 1, 2, 0)
	expectElement(t, h, 0, 5, 77)
}

func TestPushIntoAFullHeap(t *testing.T) {
	h := heap.New()
	for i := range heap.MaxHeap {
		if n, e := h.Push(api.Time(heap.MaxHeap-i), i); n != i || e != api.OK {
			t.Fatal("Push", i, n, e)
		}
	}
	before := h.Layout()
	for _, key := range []api.Time{0, 1, never} {
		if n, e := h.Push(key, 9); n != 0 || e != api.ErrFull {
			t.Errorf("Push(%d, 9) into a full heap = %d, %d", key, n, e)
		}
	}
	if h.Len() != heap.MaxHeap || !slices.Equal(h.Layout(), before) {
		t.Error("a Push with an error has changed the heap", h.Len())
	}
	expectElement(t, h, heap.MaxHeap-1, 1, heap.MaxHeap-1)
	expectNone(t, h, heap.MaxHeap)
	for _, handle := range []int{heap.MaxHeap - 1, 512, 0} {
		if e := h.Remove(handle); e != api.OK {
			t.Error("Remove", handle, e)
		}
		if n, e := h.Push(never, -1); n != handle || e != api.OK {
			t.Error("Push", handle, n, e)
		}
		if n, e := h.Push(0, 0); n != 0 || e != api.ErrFull {
			t.Error("Push into a heap that is full again", n, e)
		}
	}
}

// P2.2

func TestTopGetLen(t *testing.T) {
	h := filled(t, 8, 6, 7, 6)
	if n, e := h.Top(); n != 1 || e != api.OK {
		t.Error("Top", n, e)
	}
	if n, e := h.Top(); n != 1 || e != api.OK || h.Len() != 4 {
		t.Error("Top has changed something", n, e, h.Len())
	}
	for i, key := range []api.Time{8, 6, 7, 6} {
		expectElement(t, h, i, key, 10*i)
	}
	h.Remove(1)
	if n, e := h.Top(); n != 3 || e != api.OK || h.Len() != 3 {
		t.Error("Top", n, e, h.Len())
	}
}

func TestNumbersThatAreNoHandles(t *testing.T) {
	for _, h := range []*heap.Heap{heap.New(), filled(t, 1), filled(t, 5, 3, 5)} {
		for _, n := range append([]int{h.Len(), h.Len() + 1}, strangers...) {
			expectNone(t, h, n)
		}
	}
	h := filled(t, 5, 3, 5)
	for _, n := range []int{1, 0, 2} {
		h.Remove(n)
		expectNone(t, h, n)
	}
	expect(t, h)
}

// P2.3

func TestChange(t *testing.T) {
	for _, c := range []struct {
		handle int
		key    api.Time
		want   []int
	}{
		{0, 10, []int{0, 1, 2, 3, 4, 5}}, {0, 20, []int{0, 1, 2, 3, 4, 5}}, {0, 21, []int{1, 0, 2, 3, 4, 5}}, {0, never, []int{1, 2, 3, 4, 0, 5}},
		{5, never, []int{0, 1, 2, 3, 4, 5}}, {5, 0, []int{5, 0, 1, 2, 3, 4}}, {5, 10, []int{0, 5, 1, 2, 3, 4}}, {4, 9, []int{4, 0, 1, 2, 3, 5}},
		{2, 0, []int{2, 0, 1, 3, 4, 5}}, {2, 30, []int{0, 1, 2, 3, 4, 5}}, {2, 40, []int{0, 1, 2, 3, 4, 5}}, {2, 41, []int{0, 1, 3, 2, 4, 5}}, {2, never - 1, []int{0, 1, 3, 4, 2, 5}},
	} {
		h := filled(t, 10, 20, 30, 40, 50, never)
		if e := h.Change(c.handle, c.key); e != api.OK {
			t.Errorf("Change(%d, %d) = %d", c.handle, c.key, e)
		}
		expect(t, h, c.want...)
		expectElement(t, h, c.handle, c.key, 10*c.handle)
	}
}

func TestChangeThereAndBack(t *testing.T) {
	h := filled(t, 7, 7, 7, 7, 7, 7, 7)
	for n := range 7 {
		for _, key := range []api.Time{0, never, 8, 6, 7} {
			h.Change(n, key)
		}
		expect(t, h, 0, 1, 2, 3, 4, 5, 6)
	}
}

func TestRemove(t *testing.T) {
	keys := []api.Time{3, 9, 0, 9, 3, never, 1, 4, 4, 0, 2}
	all := []int{2, 9, 6, 10, 0, 4, 7, 8, 1, 3, 5}
	for n := range keys {
		h := filled(t, keys...)
		expect(t, h, all...)
		if e := h.Remove(n); e != api.OK {
			t.Errorf("Remove(%d) = %d", n, e)
		}
		rest := slices.DeleteFunc(slices.Clone(all), func(x int) bool { return x == n })
		expect(t, h, rest...)
		expectNone(t, h, n)
		for _, x := range rest {
			expectElement(t, h, x, keys[x], 10*x)
		}
	}
}

// The element that fills the gap may come before the parent of the gap, if it lies below another child of the top.
func TestRemoveWhereTheLastOneMustRise(t *testing.T) {
	// The children of the index 1 are at 5 to 8, those of 2 at 9 to 12.
	h := filled(t, 0, 50, 1, 60, 60, 70, 70, 70, 70, 2, 2, 2, 2)
	if e := h.Remove(7); e != api.OK {
		t.Error("Remove", e)
	}
	expect(t, h, 0, 2, 9, 10, 11, 12, 1, 3, 4, 5, 6, 8)
}

func TestRemoveToTheLastAndGoOn(t *testing.T) {
	h := filled(t, 4)
	if e := h.Remove(0); e != api.OK {
		t.Error("Remove", e)
	}
	expect(t, h)
	if e := h.Remove(0); e != api.ErrNone {
		t.Error("Remove again", e)
	}
	if n, e := h.Push(6, 1); n != 0 || e != api.OK {
		t.Error("Push", n, e)
	}
	expect(t, h, 0)
	expectElement(t, h, 0, 6, 1)
}

// P2.4

func TestLayoutIsACopy(t *testing.T) {
	h := filled(t, 5, 3, 5, 1)
	l := h.Layout()
	clear(l)
	_ = append(l[:0], 9, 9, 9, 9, 9)
	expect(t, h, 3, 1, 0, 2)
}

func TestAllIsAsWhenItWasCalled(t *testing.T) {
	h := filled(t, 5, 3, 5)
	none := heap.New()
	all, empty := h.All(), none.All()
	h.Change(2, 0)
	h.Remove(1)
	h.Push(4, 4)
	h.Push(1, 1)
	none.Push(1, 1)
	for range 2 {
		if l := slices.Collect(all); !slices.Equal(l, []int{1, 0, 2}) {
			t.Error("an iterator has changed", l)
		}
		if l := slices.Collect(empty); len(l) != 0 {
			t.Error("an empty iterator has changed", l)
		}
	}
	expect(t, h, 2, 3, 1, 0)
}

func TestAllInLoopsThatStopOrAreNested(t *testing.T) {
	all := filled(t, 5, 3, 5, 4).All()
	for stop := range 5 {
		var l []int
		for n := range all {
			if len(l) == stop {
				break
			}
			l = append(l, n)
		}
		if !slices.Equal(l, []int{1, 3, 0, 2}[:stop]) {
			t.Errorf("until %d: %d", stop, l)
		}
	}
	pairs := 0
	for range all {
		for range all {
			pairs++
		}
	}
	if pairs != 16 {
		t.Errorf("%d pairs", pairs)
	}
}

func TestAllWhileTheHeapIsEmptied(t *testing.T) {
	h := filled(t, 5, 3, 5, 4)
	var l []int
	for n := range h.All() {
		l = append(l, n)
		if e := h.Remove(n); e != api.OK {
			t.Error("Remove", n, e)
		}
	}
	if !slices.Equal(l, []int{1, 3, 0, 2}) {
		t.Error(l)
	}
	expect(t, h)
}

func TestCopy(t *testing.T) {
	h := filled(t, 5, 3, 5, 5)
	h.Remove(1)
	c := h.Copy()
	expect(t, c, 0, 2, 3)
	for _, n := range []int{0, 2, 3} {
		expectElement(t, c, n, 5, 10*n)
	}
	h.Change(3, 1)
	h.Remove(0)
	h.Push(0, 7)
	expect(t, h, 0, 3, 2)
	expect(t, c, 0, 2, 3)
	expectElement(t, c, 0, 5, 0)
	c.Change(0, 9)
	c.Remove(2)
	if n, e := c.Push(5, 8); n != 1 || e != api.OK {
		t.Error("Push into a copy", n, e)
	}
	// The copy goes on counting: its new element comes after the older one with the same key.
	expect(t, c, 3, 1, 0)
	expect(t, h, 0, 3, 2)
	expectElement(t, h, 2, 5, 20)
	expectElement(t, c.Copy(), 1, 5, 8)
	expect(t, heap.New().Copy())
}

// P2.5

func TestRemovedFromTheTopInOrder(t *testing.T) {
	random := rand.New(rand.NewSource(3))
	for _, size := range []int{1, 2, 4, 5, 6, 21, 22, 85, 86, 300, heap.MaxHeap} {
		h := heap.New()
		for i := range size {
			h.Push(api.Time(random.Intn(size)), i)
		}
		want := slices.Collect(h.All())
		lastKey, lastValue := api.Time(0), -1
		for i, n := range want {
			top, e := h.Top()
			if top != n || e != api.OK || h.Layout()[0] != top {
				t.Fatalf("%d of %d: Top() = %d, %d, not %d; Layout()[0] = %d", i, size, top, e, n, h.Layout()[0])
			}
			key, value, _ := h.Get(top)
			if key < lastKey || key == lastKey && value < lastValue {
				t.Fatalf("%d of %d: the key %d with %d comes after %d with %d", i, size, key, value, lastKey, lastValue)
			}
			lastKey, lastValue = key, value
			h.Remove(top)
		}
		expect(t, h)
	}
}

// model is a heap that sorts all of its elements whenever it is asked: they are in the order in which they were pushed.
type model []entry

type entry struct {
	key           api.Time
	value, handle int
}

func (m model) at(handle int) int {
	return slices.IndexFunc(m, func(e entry) bool { return e.handle == handle })
}

func (m *model) push(key api.Time, value int) int {
	handle := 0
	for m.at(handle) >= 0 {
		handle++
	}
	*m = append(*m, entry{key, value, handle})
	return handle
}

func (m model) handles() []int {
	sorted := slices.Clone(m)
	slices.SortStableFunc(sorted, func(a, b entry) int {
		switch {
		case a.key < b.key:
			return -1
		case a.key > b.key:
			return 1
		}
		return 0
	})
	var l []int
	for _, e := range sorted {
		l = append(l, e.handle)
	}
	return l
}

// walk makes one random step with a heap and its model.
func walk(t *testing.T, random *rand.Rand, h *heap.Heap, m *model, most int) {
	t.Helper()
	key := api.Time(random.Intn(12))
	if random.Intn(8) == 0 {
		key = never - api.Time(random.Intn(2))
	}
	handle := random.Intn(most+2) - 1
	at := m.at(handle)
	want := api.OK
	if at < 0 {
		want = api.ErrNone
	}
	switch random.Intn(4) {
	case 0, 1:
		if len(*m) == most {
			return
		}
		value := random.Int()
		if n, e := h.Push(key, value); n != m.push(key, value) || e != api.OK {
			t.Fatalf("Push(%d, %d) = %d, %d", key, value, n, e)
		}
	case 2:
		if e := h.Change(handle, key); e != want {
			t.Fatalf("Change(%d, %d) = %d, not %d", handle, key, e, want)
		}
		if at >= 0 {
			(*m)[at].key = key
		}
	case 3:
		if e := h.Remove(handle); e != want {
			t.Fatalf("Remove(%d) = %d, not %d", handle, e, want)
		}
		if at >= 0 {
			*m = slices.Delete(*m, at, at+1)
		}
	}
}

func TestWalksAgreeWithTheModel(t *testing.T) {
	for seed, most := range []int{1, 2, 3, 5, 6, 8, 21, 30, 70, 140} {
		random := rand.New(rand.NewSource(int64(seed)))
		h, m := heap.New(), model{}
		for step := range 1500 {
			walk(t, random, h, &m, most)
			expect(t, h, m.handles()...)
			for _, e := range m {
				expectElement(t, h, e.handle, e.key, e.value)
			}
			if step%100 == 50 {
				h = h.Copy()
			}
			if t.Failed() {
				t.Fatalf("walk %d: step %d", seed, step)
			}
		}
	}
}

// Nil and zero objects, and P1

func TestHeapsThatAreNilOrZero(t *testing.T) {
	var none *heap.Heap
	for i, h := range []*heap.Heap{none, {}, new(heap.Heap)} {
		for range 2 {
			if n, e := h.Push(1, 1); n != 0 || e != api.ErrNil {
				t.Errorf("%d: Push(1, 1) = %d, %d", i, n, e)
			}
			if n, e := h.Top(); n != 0 || e != api.ErrNil {
				t.Errorf("%d: Top() = %d, %d", i, n, e)
			}
			for _, n := range append([]int{0}, strangers...) {
				if k, v, e := h.Get(n); k != 0 || v != 0 || e != api.ErrNil {
					t.Errorf("%d: Get(%d) = %d, %d, %d", i, n, k, v, e)
				}
				if e := h.Change(n, 0); e != api.ErrNil {
					t.Errorf("%d: Change(%d, 0) = %d", i, n, e)
				}
				if e := h.Remove(n); e != api.ErrNil {
					t.Errorf("%d: Remove(%d) = %d", i, n, e)
				}
			}
			if h.Len() != 0 || len(h.Layout()) != 0 || h.Copy() != nil {
				t.Errorf("%d: Len() = %d, Layout() = %d, Copy() = %v", i, h.Len(), h.Layout(), h.Copy())
			}
			all := h.All()
			if all == nil || len(slices.Collect(all)) != 0 || len(slices.Collect(all)) != 0 {
				t.Errorf("%d: All is not an iterator over nothing", i)
			}
		}
	}
}

func TestStructsThatAreCopiedDoNotPanic(t *testing.T) {
	h := filled(t, 5, 3, 5)
	twin := *h
	for i := range 3 {
		h.Remove(i)
		twin.Push(1, 1)
		twin.Remove(0)
		h.Push(2, 2)
		h.Change(1, 0)
		twin.Top()
	}
	for range twin.All() {
		twin.Copy().Push(1, 1)
	}
}
