package stream

import (
	"bytes"

	"aqueduct/api"
	"aqueduct/ring"
)

// rest is the bytes of a write that were not accepted yet. Nothing ever writes into them: they only become fewer.
type rest []byte

// cut takes off the first bytes, at most a number of them, and returns them.
func (r *rest) cut(most int) []byte {
	n := min(most, len(*r))
	first := (*r)[:n:n]
	*r = (*r)[n:]
	return first
}

// kind is a kind of streams: it says how the bytes of a write come to readers. A rest that is handed to it may be accepted; what it accepts, it cuts off.
type kind interface {
	// Cap returns the capacity.
	Cap() int
	// fill accepts as many bytes of a rest as there is room for.
	fill(r *rest)
	// take takes out the first bytes, at most a number of them, and fills up the room that this makes.
	take(most int, r *rest) []byte
	// held returns the bytes that were accepted and not taken out.
	held() []byte
	// Reset drops them.
	Reset() api.Errno
}

// direct is the kind without a buffer: a byte is accepted by being taken out.
type direct struct{}

// Cap returns 0: there is never room.
func (direct) Cap() int { return 0 }

func (direct) fill(*rest) {}

func (direct) take(most int, r *rest) []byte { return bytes.Clone(r.cut(most)) }

func (direct) held() []byte { return nil }

// Reset has nothing to drop.
func (direct) Reset() api.Errno { return api.OK }

// buffered is the kind with a buffer, whose capacity and whose way of dropping everything are those of the stream.
type buffered struct{ *ring.Ring }

func (b buffered) fill(r *rest) {
	n, _ := b.Write(*r)
	r.cut(n)
}

func (b buffered) take(most int, r *rest) []byte {
	p, _ := b.Read(most)
	b.fill(r)
	return p
}

func (b buffered) held() []byte {
	p, _ := b.Peek(0, b.Len())
	return p
}

// kindOf returns the kind of streams with a capacity, which must be valid, and nothing in it.
func kindOf(capacity int) kind {
	if capacity == 0 {
		return direct{}
	}
	buffer, _ := ring.New(capacity)
	return buffered{buffer}
}
