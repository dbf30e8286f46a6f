package meet_test

import (
	"fmt"
	"testing"

	"aqueduct/api"
	"aqueduct/meet"
	"aqueduct/rope"
)

// model is all that can be seen of a stream, and a stream that remembers its whole offer. What one model becomes changes no copy of it.
type model struct {
	offers      bool
	text        string
	taken       int
	write, read api.Errno
}

// rest returns the bytes of the offer that were not taken.
func (m *model) rest() string { return m.text[m.taken:] }

// Offer makes a rope the offer, or returns an error.
func (m *model) Offer(r rope.Rope) api.Errno {
	switch {
	case m.offers:
		return api.ErrBusy
	case m.read != api.OK:
		return m.read
	case m.write != api.OK:
		return api.ErrClosed
	}
	m.offers, m.text = true, string(r.Bytes())
	return api.OK
}

// Take returns what can be taken, or an error.
func (m *model) Take(most int) ([]byte, api.Errno) {
	switch {
	case most < 0:
		return nil, api.ErrArg
	case most == 0:
		return nil, api.OK
	case m.read != api.OK:
		return nil, m.read
	case m.offers && m.rest() != "" && m.write == api.OK:
		first := m.rest()[:min(most, len(m.rest()))]
		m.taken += len(first)
		return []byte(first), api.OK
	case m.write != api.OK:
		return nil, m.write
	}
	return nil, api.ErrBlock
}

// Result ends an offer that is over, or returns an error.
func (m *model) Result() (int, api.Errno) {
	if m.offers && m.rest() != "" && m.write == api.OK && m.read == api.OK {
		return 0, api.ErrBlock
	}
	return m.Withdraw()
}

// Withdraw ends an offer, or returns an error.
func (m *model) Withdraw() (int, api.Errno) {
	if !m.offers {
		return 0, api.ErrNone
	}
	n := m.taken
	m.offers, m.text, m.taken = false, "", 0
	return n, api.OK
}

// closes closes an end, or returns an error.
func closes(end *api.Errno, with api.Errno) api.Errno {
	switch {
	case with == api.OK:
		return api.ErrArg
	case *end != api.OK:
		return api.ErrState
	}
	*end = with
	return api.OK
}

// CloseWrite closes the writing end, or returns an error.
func (m *model) CloseWrite(with api.Errno) api.Errno { return closes(&m.write, with) }

// CloseRead closes the reading end, or returns an error.
func (m *model) CloseRead(with api.Errno) api.Errno { return closes(&m.read, with) }

// Left returns how many bytes were not taken, and whether there is an offer.
func (m *model) Left() (int, bool) { return len(m.rest()), m.offers }

// Closed returns the errors of both ends.
func (m *model) Closed() (write, read api.Errno) { return m.write, m.read }

// machine is a stream or a model.
type machine interface {
	Offer(r rope.Rope) api.Errno
	Take(most int) ([]byte, api.Errno)
	Result() (int, api.Errno)
	Withdraw() (int, api.Errno)
	CloseWrite(with api.Errno) api.Errno
	CloseRead(with api.Errno) api.Errno
	Left() (int, bool)
	Closed() (write, read api.Errno)
}

// call is a call with its arguments, whose results are told as a text.
type call struct {
	name string
	do   func(x machine) string
}

// bytesOf tells bytes and a code as a text.
func bytesOf(p []byte, code api.Errno) string { return fmt.Sprintf("%q %d", p, code) }

func offer(parts ...string) call {
	r := of(parts...)
	return call{fmt.Sprintf("Offer(%.60q)", parts), func(x machine) string { return fmt.Sprint(x.Offer(r)) }}
}

func take(most int) call {
	return call{fmt.Sprintf("Take(%d)", most), func(x machine) string { return bytesOf(x.Take(most)) }}
}

func result() call {
	return call{"Result()", func(x machine) string { return fmt.Sprint(x.Result()) }}
}

func withdraw() call {
	return call{"Withdraw()", func(x machine) string { return fmt.Sprint(x.Withdraw()) }}
}

func closeWrite(with api.Errno) call {
	return call{fmt.Sprintf("CloseWrite(%d)", with), func(x machine) string { return fmt.Sprint(x.CloseWrite(with)) }}
}

func closeRead(with api.Errno) call {
	return call{fmt.Sprintf("CloseRead(%d)", with), func(x machine) string { return fmt.Sprint(x.CloseRead(with)) }}
}

func left() call {
	return call{"Left()", func(x machine) string { return fmt.Sprint(x.Left()) }}
}

func closed() call {
	return call{"Closed()", func(x machine) string { return fmt.Sprint(x.Closed()) }}
}

// both lets a stream and its model carry out some calls, and compares the results.
func both(t *testing.T, s *meet.Meet, m *model, calls ...call) {
	t.Helper()
	for _, c := range calls {
		if got, want := c.do(s), c.do(m); got != want {
			t.Errorf("%+v: %s = %.200s, not %.200s", *m, c.name, got, want)
		}
	}
}

// expect checks all that can be seen of a stream, now and later on.
func expect(t *testing.T, s *meet.Meet, want model) {
	t.Helper()
	for _, next := range [][]call{
		{take(1), take(1), take(2), take(api.MaxData), take(1), result(), result()},
		{result(), offer("new"), take(9)},
		{withdraw(), withdraw(), take(1), offer("new"), take(2)},
		{offer("new"), take(9)},
		{closeWrite(77), take(1), withdraw(), offer("new")},
		{closeRead(78), take(1), result(), offer("new")},
	} {
		twin, m := s.Copy(), want
		for _, c := range next {
			both(t, twin, &m, c, left(), closed())
		}
	}
	both(t, s, &want, left(), closed())
}
