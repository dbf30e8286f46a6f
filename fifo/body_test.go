package fifo

import (
	"math/rand"
	"testing"
)

// What the promises do not show: that the links lead the same way in both directions, and that those of values that have left are deleted.

// linked reports whether the links of a queue's body lead from its first ticket to its last one, in both directions and through all of them.
func linked(b *body) bool {
	steps, before := 0, uint64(none)
	for ticket := b.first; ticket != none; ticket = b.links[ticket].after {
		l, ok := b.links[ticket]
		if !ok || l.before != before || steps == len(b.links) {
			return false
		}
		steps++
		before = ticket
	}
	return before == b.last && steps == len(b.links)
}

func TestLinksLeadBothWays(t *testing.T) {
	random := rand.New(rand.NewSource(1))
	for most := 1; most <= 9; most++ {
		q := New()
		held := 0
		for range 500 {
			before := q.Len()
			switch random.Intn(5) {
			case 0, 1:
				if before < most {
					q.Push(random.Intn(9))
					held++
				}
			case 2:
				q.Pop()
				held = max(0, held-1)
			case 3:
				ticket := q.body.given - uint64(random.Intn(most+1))
				if _, ok := q.body.links[ticket]; ok {
					q.Remove(ticket)
					held--
				}
			case 4:
				q = q.Copy()
			}
			if !linked(q.body) || len(q.body.links) != held {
				t.Fatalf("%d values, from %d to %d: %v", held, q.body.first, q.body.last, q.body.links)
			}
		}
	}
}
