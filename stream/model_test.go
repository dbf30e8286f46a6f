package stream_test

import (
	"fmt"
	"testing"

	"aqueduct/api"
	"aqueduct/rope"
	"aqueduct/stream"
)

// model is all that is known of a stream, and a stream that keeps its bytes as texts. What one model becomes changes no copy of it.
type model struct {
	capacity    int
	buffer      string
	busy        bool
	rest        string
	accepted    int
	write, read api.Errno
	// gone is the number of bytes that have gone through the buffer, as far as it says where in a ring the next one lies.
	gone int
}

// open reports whether both ends are open.
func (m *model) open() bool { return m.write == api.OK && m.read == api.OK }

// accept takes so many bytes from the rest, which are accepted by that.
func (m *model) accept(n int) string {
	first := m.rest[:n]
	m.rest = m.rest[n:]
	m.accepted += n
	return first
}

// fill fills the buffer.
func (m *model) fill() {
	if m.busy && m.open() {
		m.buffer += m.accept(min(m.capacity-len(m.buffer), len(m.rest)))
	}
}

// Begin begins a write, or returns an error.
func (m *model) Begin(r rope.Rope) api.Errno {
	switch {
	case m.write != api.OK:
		return api.ErrClosed
	case m.read != api.OK:
		return m.read
	case m.busy:
		return api.ErrBusy
	}
	m.busy, m.rest, m.accepted = true, string(r.Bytes()), 0
	m.fill()
	return api.OK
}

// atEnd reports whether a write is at its end.
func (m *model) atEnd() bool { return m.rest == "" || m.write != api.OK || m.read != api.OK }

// Progress returns how many bytes were accepted, and whether the write is at its end.
func (m *model) Progress() (int, bool) {
	if !m.busy {
		return 0, false
	}
	return m.accepted, m.atEnd()
}

// finish ends the write.
func (m *model) finish(how api.Errno) (int, api.Errno) {
	n := m.accepted
	m.busy, m.rest, m.accepted = false, "", 0
	return n, how
}

// End ends a write that is at its end, or returns an error.
func (m *model) End() (int, api.Errno) {
	switch {
	case !m.busy:
		return 0, api.ErrState
	case !m.atEnd():
		return 0, api.ErrBlock
	case m.rest == "":
		return m.finish(api.OK)
	case m.write != api.OK:
		return m.finish(api.ErrClosed)
	}
	return m.finish(m.read)
}

// Cancel ends a write, or returns an error.
func (m *model) Cancel() (int, api.Errno) {
	if !m.busy {
		return 0, api.ErrState
	}
	return m.finish(api.OK)
}

// Read takes out bytes, or returns an error.
func (m *model) Read(most int) ([]byte, api.Errno) {
	switch {
	case most < 0 || most > api.MaxData:
		return nil, api.ErrArg
	case m.read != api.OK:
		return nil, api.ErrClosed
	case most == 0:
		return nil, api.OK
	case m.buffer != "":
		first := m.buffer[:min(most, len(m.buffer))]
		m.buffer = m.buffer[len(first):]
		m.gone = (m.gone + len(first)) % m.capacity
		m.fill()
		return []byte(first), api.OK
	case m.capacity == 0 && m.write == api.OK && m.rest != "":
		return []byte(m.accept(min(most, len(m.rest)))), api.OK
	case m.write == api.OK:
		return nil, api.ErrBlock
	}
	return nil, m.write
}

// closes closes an end, or returns an error.
func closes(end *api.Errno, with api.Errno) api.Errno {
	switch {
	case with < 1 || with > 1000:
		return api.ErrArg
	case *end != api.OK:
		return api.ErrClosed
	}
	*end = with
	return api.OK
}

// CloseWrite closes the writing end, or returns an error.
func (m *model) CloseWrite(with api.Errno) api.Errno { return closes(&m.write, with) }

// CloseRead closes the reading end and drops the buffer, or returns an error.
func (m *model) CloseRead(with api.Errno) api.Errno {
	code := closes(&m.read, with)
	if code == api.OK {
		m.buffer = ""
	}
	return code
}

// State returns the state.
func (m *model) State() api.StreamState {
	return api.StreamState{Cap: m.capacity, Buffer: []byte(m.buffer), Busy: m.busy, Rest: []byte(m.rest), Accepted: m.accepted, Write: m.write, Read: m.read}
}

// modelOf returns the model with a state.
func modelOf(s api.StreamState) model {
	return model{capacity: s.Cap, buffer: string(s.Buffer), busy: s.Busy, rest: string(s.Rest), accepted: s.Accepted, write: s.Write, read: s.Read}
}

// machine is a stream or a model.
type machine interface {
	Begin(r rope.Rope) api.Errno
	Progress() (int, bool)
	End() (int, api.Errno)
	Cancel() (int, api.Errno)
	Read(most int) ([]byte, api.Errno)
	CloseWrite(with api.Errno) api.Errno
	CloseRead(with api.Errno) api.Errno
	State() api.StreamState
}

// call is a call with its arguments, whose results are told as a text.
type call struct {
	name string
	do   func(x machine) string
}

// bytesOf tells bytes and a code as a text.
func bytesOf(p []byte, code api.Errno) string { return fmt.Sprintf("%q %d", p, code) }

// textOf tells a state as a text.
func textOf(s api.StreamState) string {
	return fmt.Sprintf("{Cap %d Buffer %q Busy %t Rest %q Accepted %d Write %d Read %d}", s.Cap, s.Buffer, s.Busy, s.Rest, s.Accepted, s.Write, s.Read)
}

func begin(parts ...string) call {
	r := of(parts...)
	return call{fmt.Sprintf("Begin(%.60q)", parts), func(x machine) string { return fmt.Sprint(x.Begin(r)) }}
}

func progress() call {
	return call{"Progress", func(x machine) string { return fmt.Sprint(x.Progress()) }}
}

func end() call {
	return call{"End", func(x machine) string { return fmt.Sprint(x.End()) }}
}

func cancel() call {
	return call{"Cancel", func(x machine) string { return fmt.Sprint(x.Cancel()) }}
}

func read(most int) call {
	return call{fmt.Sprintf("Read(%d)", most), func(x machine) string { return bytesOf(x.Read(most)) }}
}

func closeWrite(with api.Errno) call {
	return call{fmt.Sprintf("CloseWrite(%d)", with), func(x machine) string { return fmt.Sprint(x.CloseWrite(with)) }}
}

func closeRead(with api.Errno) call {
	return call{fmt.Sprintf("CloseRead(%d)", with), func(x machine) string { return fmt.Sprint(x.CloseRead(with)) }}
}

func state() call {
	return call{"State", func(x machine) string { return textOf(x.State()) }}
}

// both lets a stream and its model carry out some calls, and compares the results.
func both(t *testing.T, s *stream.Stream, m *model, calls ...call) {
	t.Helper()
	for _, c := range calls {
		before := *m
		if got, want := c.do(s), c.do(m); got != want {
			t.Errorf("%.200s: %s = %.200s, not %.200s", fmt.Sprintf("%+v", before), c.name, got, want)
		}
	}
}

// futures are calls that show what a stream is.
var futures = [][]call{
	{read(1), progress(), read(2), end(), begin("new"), progress(), read(api.MaxBuffer), end(), read(1)},
	{cancel(), begin("n", "ew"), read(1), progress(), cancel(), read(api.MaxData), read(1)},
	{closeWrite(77), progress(), read(2), end(), begin("new"), read(api.MaxData), read(1)},
	{closeRead(78), progress(), read(1), end(), begin("new"), closeWrite(79), begin("new"), read(1)},
}

// expect checks all that can be seen of a stream, now and later on, and of one with its state.
func expect(t *testing.T, s *stream.Stream, want model) {
	t.Helper()
	both(t, s, &want, state(), progress())
	for _, next := range futures {
		for _, twin := range []*stream.Stream{s.Copy(), restored(t, s.State())} {
			m := want
			for _, c := range next {
				both(t, twin, &m, c, state())
			}
		}
	}
	both(t, s, &want, state())
}
