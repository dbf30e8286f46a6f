package duplex_test

import (
	"fmt"
	"testing"

	"aqueduct/api"
	"aqueduct/duplex"
	"aqueduct/rope"
	"aqueduct/stream"
)

// model is a connection as the chapter describes it: two streams of layer 14, and which ends were closed.
type model struct {
	// there leads from the end 0 to the end 1, and back from the end 1 to the end 0.
	there, back *stream.Stream
	closed      [2]bool
}

// modelOf returns the model with a state, which must be valid.
func modelOf(s api.ConnState) *model {
	there, _ := stream.Restore(s.Streams[0])
	back, _ := stream.Restore(s.Streams[1])
	return &model{there, back, s.Closed}
}

// fresh returns the model of a new connection.
func fresh(first, second int) *model {
	return modelOf(api.ConnState{Streams: [2]api.StreamState{{Cap: first}, {Cap: second}}})
}

// twin returns a model that goes on independently.
func (m *model) twin() *model { return modelOf(m.State()) }

// out returns the stream that an end writes.
func (m *model) out(end int) *stream.Stream {
	if end == 0 {
		return m.there
	}
	return m.back
}

// in returns the stream that an end reads.
func (m *model) in(end int) *stream.Stream {
	if end == 0 {
		return m.back
	}
	return m.there
}

// isEnd reports whether a number is that of an end.
func isEnd(end int) bool { return end == 0 || end == 1 }

// Read reads at an end, or returns an error.
func (m *model) Read(end, most int) ([]byte, api.Errno) {
	if !isEnd(end) {
		return nil, api.ErrArg
	}
	return m.in(end).Read(most)
}

// Begin begins a write at an end, or returns an error.
func (m *model) Begin(end int, r rope.Rope) api.Errno {
	if !isEnd(end) {
		return api.ErrArg
	}
	return m.out(end).Begin(r)
}

// Progress returns how a write at an end stands.
func (m *model) Progress(end int) (int, bool) {
	if !isEnd(end) {
		return 0, false
	}
	return m.out(end).Progress()
}

// Finish ends a write that is at its end, or returns an error.
func (m *model) Finish(end int) (int, api.Errno) {
	if !isEnd(end) {
		return 0, api.ErrArg
	}
	return m.out(end).End()
}

// Cancel ends a write, or returns an error.
func (m *model) Cancel(end int) (int, api.Errno) {
	if !isEnd(end) {
		return 0, api.ErrArg
	}
	return m.out(end).Cancel()
}

// Close closes an end, or returns an error.
func (m *model) Close(end int) api.Errno {
	switch {
	case !isEnd(end):
		return api.ErrArg
	case m.closed[end]:
		return api.ErrClosed
	}
	m.closed[end] = true
	if m.out(end).State().Write == api.OK {
		m.out(end).CloseWrite(api.ErrEOF)
	}
	if m.in(end).State().Read == api.OK {
		m.in(end).CloseRead(api.ErrClosed)
	}
	return api.OK
}

// CloseRead closes the reading at an end, or returns an error.
func (m *model) CloseRead(end int) api.Errno {
	if !isEnd(end) {
		return api.ErrArg
	}
	return m.in(end).CloseRead(api.ErrClosed)
}

// CloseWrite closes the writing at an end, or returns an error.
func (m *model) CloseWrite(end int) api.Errno {
	if !isEnd(end) {
		return api.ErrArg
	}
	return m.out(end).CloseWrite(api.ErrEOF)
}

// Closed reports whether an end was closed.
func (m *model) Closed(end int) bool { return isEnd(end) && m.closed[end] }

// State returns the state.
func (m *model) State() api.ConnState {
	return api.ConnState{Streams: [2]api.StreamState{m.there.State(), m.back.State()}, Closed: m.closed}
}

// machine is a connection or a model.
type machine interface {
	Read(end, most int) ([]byte, api.Errno)
	Begin(end int, r rope.Rope) api.Errno
	Progress(end int) (int, bool)
	Finish(end int) (int, api.Errno)
	Cancel(end int) (int, api.Errno)
	Close(end int) api.Errno
	CloseRead(end int) api.Errno
	CloseWrite(end int) api.Errno
	Closed(end int) bool
	State() api.ConnState
}

// call is a call with its arguments.
type call struct {
	name  string
	end   int
	most  int
	parts []string
}

// answer is what a call has returned.
type answer struct {
	bytes string
	n     int
	yes   bool
	code  api.Errno
}

// do carries out a call.
func (c call) do(x machine) answer {
	var a answer
	switch c.name {
	case "Read":
		var p []byte
		p, a.code = x.Read(c.end, c.most)
		a.bytes = string(p)
	case "Begin":
		a.code = x.Begin(c.end, of(c.parts...))
	case "Progress":
		a.n, a.yes = x.Progress(c.end)
	case "Finish":
		a.n, a.code = x.Finish(c.end)
	case "Cancel":
		a.n, a.code = x.Cancel(c.end)
	case "Close":
		a.code = x.Close(c.end)
	case "CloseRead":
		a.code = x.CloseRead(c.end)
	case "CloseWrite":
		a.code = x.CloseWrite(c.end)
	case "Closed":
		a.yes = x.Closed(c.end)
	}
	return a
}

func read(end, most int) call             { return call{name: "Read", end: end, most: most} }
func begin(end int, parts ...string) call { return call{name: "Begin", end: end, parts: parts} }
func progress(end int) call               { return call{name: "Progress", end: end} }
func finish(end int) call                 { return call{name: "Finish", end: end} }
func cancel(end int) call                 { return call{name: "Cancel", end: end} }
func shut(end int) call                   { return call{name: "Close", end: end} }
func closeRead(end int) call              { return call{name: "CloseRead", end: end} }
func closeWrite(end int) call             { return call{name: "CloseWrite", end: end} }
func closed(end int) call                 { return call{name: "Closed", end: end} }

// streamLook is a state of a stream as a value that can be compared.
type streamLook struct {
	capacity     int
	buffer, rest string
	busy         bool
	accepted     int
	write, read  api.Errno
}

// look is a state of a connection as a value that can be compared.
type look struct {
	streams [2]streamLook
	closed  [2]bool
}

// lookOf returns a state as a value that can be compared.
func lookOf(s api.ConnState) look {
	x := look{closed: s.Closed}
	for i, of := range s.Streams {
		x.streams[i] = streamLook{of.Cap, string(of.Buffer), string(of.Rest), of.Busy, of.Accepted, of.Write, of.Read}
	}
	return x
}

// both lets a connection and its model carry out some calls, and compares the answers and the states.
func both(t *testing.T, d *duplex.Duplex, m *model, calls ...call) {
	t.Helper()
	for _, c := range calls {
		before := lookOf(m.State())
		if got, want := c.do(d), c.do(m); got != want {
			t.Errorf("%.300s: %.100s = %.200s, not %.200s", text(before), text(c), text(got), text(want))
		}
		shows(t, d, m)
	}
}

// text tells a value as a text.
func text(x any) string { return fmt.Sprintf("%+v", x) }

// shows checks all that a connection shows of itself, without a call that changes it.
func shows(t *testing.T, d *duplex.Duplex, m *model) {
	t.Helper()
	if got, want := lookOf(d.State()), lookOf(m.State()); got != want {
		t.Errorf("the state is %.300s, not %.300s", text(got), text(want))
	}
	for _, end := range []int{-1, 0, 1, 2} {
		for _, c := range []call{progress(end), closed(end)} {
			if got, want := c.do(d), c.do(m); got != want {
				t.Errorf("%.300s: %s = %s, not %s", text(lookOf(m.State())), text(c), text(got), text(want))
			}
		}
	}
}

// futures are calls that show what a connection is.
var futures = [][]call{
	{read(0, 1), read(1, 1), finish(0), finish(1), begin(0, "new"), begin(1, "old"), read(0, 9), read(1, 9)},
	{cancel(0), begin(0, "n", "ew"), read(1, 2), cancel(1), begin(1, "ol", "d"), read(0, 2)},
	{shut(0), finish(0), finish(1), read(1, 9), read(1, 9), shut(1)},
	{closeRead(1), closeWrite(1), finish(1), finish(0), read(0, 9), shut(1), read(0, 1)},
}

// expect checks all that can be seen of a connection, now and later on, and of a copy and one with its state.
func expect(t *testing.T, d *duplex.Duplex, m *model) {
	t.Helper()
	shows(t, d, m)
	for _, next := range futures {
		both(t, d.Copy(), m.twin(), next...)
		both(t, restored(t, d.State()), m.twin(), next...)
	}
	shows(t, d, m)
}
