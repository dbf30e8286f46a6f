package flow_test

import (
	"fmt"
	"testing"

	"aqueduct/api"
	"aqueduct/flow"
	"aqueduct/rope"
)

// model is all that can be seen of a stream, and a stream that keeps its bytes as a text. What one model becomes changes no copy of it.
type model struct {
	capacity    int
	buffer      string
	write, read api.Errno
}

// Write does what happens to a write.
func (m *model) Write(r rope.Rope) (int, api.Errno) {
	room := m.capacity - len(m.buffer)
	switch {
	case m.read != api.OK:
		return 0, m.read
	case m.write != api.OK:
		return 0, api.ErrClosed
	case r.Len() == 0:
		return 0, api.OK
	case room == 0:
		return 0, api.ErrBlock
	}
	first := r.Bytes()[:min(room, r.Len())]
	m.buffer += string(first)
	return len(first), api.OK
}

// Read does what happens to a read, or returns an error.
func (m *model) Read(most int) ([]byte, api.Errno) {
	switch {
	case most < 0:
		return nil, api.ErrArg
	case most == 0:
		return nil, api.OK
	case m.read != api.OK:
		return nil, m.read
	case m.buffer != "":
		first := m.buffer[:min(most, len(m.buffer))]
		m.buffer = m.buffer[len(first):]
		return []byte(first), api.OK
	case m.write != api.OK:
		return nil, m.write
	}
	return nil, api.ErrBlock
}

// closes closes an end, or returns an error.
func closes(end *api.Errno, with api.Errno) api.Errno {
	switch {
	case with == api.OK:
		return api.ErrArg
	case *end != api.OK:
		return api.ErrState
	}
	*end = with
	return api.OK
}

// CloseWrite closes the writing end, or returns an error.
func (m *model) CloseWrite(with api.Errno) api.Errno { return closes(&m.write, with) }

// CloseRead closes the reading end and drops the buffer, or returns an error.
func (m *model) CloseRead(with api.Errno) api.Errno {
	code := closes(&m.read, with)
	if code == api.OK {
		m.buffer = ""
	}
	return code
}

// Len returns the number of bytes in the buffer.
func (m *model) Len() int { return len(m.buffer) }

// Free returns the room.
func (m *model) Free() int { return m.capacity - len(m.buffer) }

// Cap returns the capacity.
func (m *model) Cap() int { return m.capacity }

// Closed returns the errors of both ends.
func (m *model) Closed() (write, read api.Errno) { return m.write, m.read }

// machine is a stream or a model.
type machine interface {
	Write(r rope.Rope) (int, api.Errno)
	Read(most int) ([]byte, api.Errno)
	CloseWrite(with api.Errno) api.Errno
	CloseRead(with api.Errno) api.Errno
	Len() int
	Free() int
	Cap() int
	Closed() (write, read api.Errno)
}

// call is a call with its arguments, whose results are told as a text.
type call struct {
	name string
	do   func(x machine) string
}

// bytesOf tells bytes and a code as a text.
func bytesOf(p []byte, code api.Errno) string { return fmt.Sprintf("%q %d", p, code) }

func write(parts ...string) call {
	r := of(parts...)
	return call{fmt.Sprintf("Write(%.60q)", parts), func(x machine) string { return fmt.Sprint(x.Write(r)) }}
}

func read(most int) call {
	return call{fmt.Sprintf("Read(%d)", most), func(x machine) string { return bytesOf(x.Read(most)) }}
}

func closeWrite(with api.Errno) call {
	return call{fmt.Sprintf("CloseWrite(%d)", with), func(x machine) string { return fmt.Sprint(x.CloseWrite(with)) }}
}

func closeRead(with api.Errno) call {
	return call{fmt.Sprintf("CloseRead(%d)", with), func(x machine) string { return fmt.Sprint(x.CloseRead(with)) }}
}

// sizes asks for everything that is told without an error.
func sizes() call {
	return call{"Len, Free, Cap and Closed", func(x machine) string {
		w, r := x.Closed()
		return fmt.Sprint(x.Len(), x.Free(), x.Cap(), w, r)
	}}
}

// both lets a stream and its model carry out some calls, and compares the results.
func both(t *testing.T, s *flow.Flow, m *model, calls ...call) {
	t.Helper()
	for _, c := range calls {
		before := *m
		if got, want := c.do(s), c.do(m); got != want {
			t.Errorf("%.200s: %s = %.200s, not %.200s", fmt.Sprintf("%+v", before), c.name, got, want)
		}
	}
}

// expect checks all that can be seen of a stream, now and later on.
func expect(t *testing.T, s *flow.Flow, want model) {
	t.Helper()
	both(t, s, &want, sizes())
	for _, next := range [][]call{
		{read(1), read(2), read(api.MaxBuffer), read(1), write("n", "ew"), read(9)},
		{write("new"), read(1), write("", "est"), read(api.MaxData), read(1)},
		{closeWrite(77), write("new"), read(2), read(api.MaxData), read(1)},
		{closeRead(78), write("new"), read(1), closeWrite(79), write(), read(1)},
	} {
		twin, m := s.Copy(), want
		for _, c := range next {
			both(t, twin, &m, c, sizes())
		}
	}
	both(t, s, &want, sizes())
}
