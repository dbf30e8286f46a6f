package heap

import "slices"

// arity is how many children an item has at most.
const arity = 4

// quad is a 4-ary heap in an array: no item comes before its parent, which is the one at the index (i - 1) / 4.
type quad[T any] struct {
	items []T
	// compare is negative if an item comes before another one.
	compare func(a, b T) int
	// placed is told where an item lies now, so that whoever owns the items can find them.
	placed func(item T, index int)
}

// push adds an item.
func (q *quad[T]) push(item T) {
	q.items = append(q.items, item)
	q.rise(len(q.items) - 1)
}

// removeAt removes the item at an index.
func (q *quad[T]) removeAt(index int) {
	last := len(q.items) - 1
	filler := q.items[last]
	q.items = slices.Delete(q.items, last, last+1)
	if index == last {
		return
	}
	q.items[index] = filler
	q.settle(index)
}

// settle moves an item, which may come earlier or later than before, from its index to where it belongs.
func (q *quad[T]) settle(index int) { q.sink(q.rise(index)) }

// rise moves an item up until it does not come before its parent, and returns its index.
func (q *quad[T]) rise(index int) int {
	item := q.items[index]
	for index > 0 {
		parent := (index - 1) / arity
		if q.compare(item, q.items[parent]) >= 0 {
			break
		}
		q.put(q.items[parent], index)
		index = parent
	}
	q.put(item, index)
	return index
}

// sink moves an item down until none of its children comes before it.
func (q *quad[T]) sink(index int) {
	item := q.items[index]
	for arity*index+1 < len(q.items) {
		child := q.firstChild(index)
		if q.compare(item, q.items[child]) <= 0 {
			break
		}
		q.put(q.items[child], index)
		index = child
	}
	q.put(item, index)
}

// firstChild returns the index of that child which comes first, of an item that has children.
func (q *quad[T]) firstChild(parent int) int {
	first := arity*parent + 1
	for child := first + 1; child < min(arity*parent+1+arity, len(q.items)); child++ {
		if q.compare(q.items[child], q.items[first]) < 0 {
			first = child
		}
	}
	return first
}

// put lays an item at an index.
func (q *quad[T]) put(item T, index int) {
	q.items[index] = item
	q.placed(item, index)
}

// sorted returns all items in order.
func (q *quad[T]) sorted() []T {
	return slices.SortedFunc(slices.Values(q.items), q.compare)
}
