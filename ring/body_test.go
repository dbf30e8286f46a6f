package ring

import (
	"math/rand"
	"testing"
)

// What the promises do not show: which places there are, and that those from which bytes were taken are cleared.

// places returns, for each place of a ring buffer's body, whether it holds a byte.
func places(b *body) []bool {
	holds := make([]bool, len(b.cells))
	for i := range b.count {
		holds[(b.first+i)%len(holds)] = true
	}
	return holds
}

func TestPlacesWithoutBytesAreCleared(t *testing.T) {
	random := rand.New(rand.NewSource(5))
	for capacity := 1; capacity <= 9; capacity++ {
		r, _ := New(capacity)
		for range 500 {
			switch random.Intn(5) {
			case 0, 1:
				r.Write([]byte("############")[:random.Intn(12)])
			case 2:
				r.Read(random.Intn(capacity + 2))
			case 3:
				r.Skip(random.Intn(capacity + 2))
			case 4:
				if random.Intn(4) == 0 {
					r.Reset()
				}
			}
			for i, holds := range places(r.body) {
				if holds != (r.body.cells[i] == '#') || !holds && r.body.cells[i] != 0 {
					t.Fatalf("capacity %d: the cells %q, of which %d bytes are from %d on", capacity, r.body.cells, r.body.count, r.body.first)
				}
			}
		}
	}
}

func TestNothingCanBeAppendedToPieces(t *testing.T) {
	for capacity := 1; capacity <= 6; capacity++ {
		r, _ := New(capacity)
		for first := range capacity {
			r.body.first = first
			for offset := range capacity + 1 {
				for n := range capacity - offset + 1 {
					head, tail := r.body.pieces(offset, n)
					if len(head)+len(tail) != n || cap(head) != len(head) || cap(tail) != len(tail) {
						t.Errorf("%d from %d + %d on of %d: pieces of %d and %d, with room for %d and %d", n, first, offset, capacity, len(head), len(tail), cap(head), cap(tail))
					}
				}
			}
		}
	}
}
