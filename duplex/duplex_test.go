package duplex_test

import (
	"math"
	"math/rand"
	"slices"
	"strings"
	"testing"

	"aqueduct/api"
	"aqueduct/duplex"
	"aqueduct/rope"
	"aqueduct/stream"
)

// noEnds are numbers that no end has.
var noEnds = []int{-1, 2, 3, -2, 1 << 31, 1 << 32, 1<<32 + 1, -1 << 32, math.MaxInt, math.MaxInt - 1, math.MinInt, math.MinInt + 1}

// noSizes are numbers of bytes that no call may read.
var noSizes = []int{-1, -2, math.MinInt, math.MinInt + 1, api.MaxData + 1, 1 << 31, 1 << 32, math.MaxInt}

// noCapacities are numbers that no capacity is.
var noCapacities = []int{-1, -2, -api.MaxBuffer, math.MinInt, api.MaxBuffer + 1, api.MaxBuffer + 2, api.MaxData, 1 << 32, math.MaxInt}

// of returns the rope of some texts, which must be few and short enough for one.
func of(parts ...string) rope.Rope {
	var l [][]byte
	for _, p := range parts {
		l = append(l, []byte(p))
	}
	r, _ := rope.New(l...)
	return r
}

// long returns so many bytes, which repeat themselves after 251 of them.
func long(n int) string {
	p := make([]byte, n)
	for i := range p {
		p[i] = byte(i % 251)
	}
	return string(p)
}

// spoil writes into bytes and behind them.
func spoil(p []byte) {
	clear(append(p, "????????????"...))
	clear(p[:cap(p)])
}

// spoilState writes into all bytes of a state.
func spoilState(s api.ConnState) {
	for _, x := range s.Streams {
		spoil(x.Buffer)
		spoil(x.Rest)
	}
}

// opened returns an open connection.
func opened(t *testing.T, first, second int) *duplex.Duplex {
	t.Helper()
	d, e := duplex.New(first, second)
	if d == nil || e != api.OK {
		t.Fatalf("New(%d, %d) = %v, %d", first, second, d, e)
	}
	return d
}

// restored returns a connection with a state.
func restored(t *testing.T, s api.ConnState) *duplex.Duplex {
	t.Helper()
	d, e := duplex.Restore(s)
	if d == nil || e != api.OK {
		t.Fatalf("Restore(%.300s) = %v, %d", text(lookOf(s)), d, e)
	}
	return d
}

// gets is a call with what it returns.
type gets struct {
	call call
	want answer
}

// all checks what some calls return, one after the other.
func all(t *testing.T, x machine, list ...gets) {
	t.Helper()
	for i, g := range list {
		if got := g.call.do(x); got != g.want {
			t.Errorf("%d: %.100s = %.200s, not %.200s", i, text(g.call), text(got), text(g.want))
		}
	}
}

// ok is the answer of a call without results and without an error.
var ok = answer{}

// The other answers, with all their other parts zero.

func code(e api.Errno) answer           { return answer{code: e} }
func bytesOf(p string) answer           { return answer{bytes: p} }
func stands(n int, atEnd bool) answer   { return answer{n: n, yes: atEnd} }
func ended(n int, how api.Errno) answer { return answer{n: n, code: how} }
func is(yes bool) answer                { return answer{yes: yes} }

// The examples

func TestExample(t *testing.T) {
	d := opened(t, 4, 0)
	all(t, d,
		gets{begin(0, "abcdef"), ok},
		gets{progress(0), stands(4, false)},
		gets{begin(1, "xy"), ok},
		gets{read(0, 1), bytesOf("x")},
		gets{read(1, 9), bytesOf("abcd")},
		gets{progress(0), stands(6, true)},

		gets{shut(0), ok},
		gets{finish(0), ended(6, api.OK)},
		gets{finish(1), ended(1, api.ErrClosed)},
		gets{read(1, 9), bytesOf("ef")},
		gets{read(1, 9), code(api.ErrEOF)},
		gets{begin(1, "z"), code(api.ErrClosed)},
		gets{read(0, 1), code(api.ErrClosed)},
		gets{shut(0), code(api.ErrClosed)},

		gets{closeRead(1), ok},
		gets{closeWrite(1), ok},
		gets{closed(1), is(false)},
		gets{closed(0), is(true)},
		gets{shut(1), ok},
		gets{closed(1), is(true)},
	)
}

func TestExampleOfArguments(t *testing.T) {
	if d, e := duplex.New(0, 4097); d != nil || e != api.ErrArg {
		t.Errorf("New(0, 4097) = %v, %d", d, e)
	}
	all(t, opened(t, 4, 0), gets{read(2, 1), code(api.ErrArg)}, gets{begin(-1, "a"), code(api.ErrArg)})
}

// Situations

// traffic returns what may have happened to the bytes that an end writes.
func traffic(end int) [][]call {
	data := []string{"abc", "xyz"}[end]
	return [][]call{
		{},
		{begin(end)},
		{begin(end, data)},
		{begin(end, data), read(1-end, 1)},
		{begin(end, data), read(1-end, 1), cancel(end)},
	}
}

// closings returns how an end may have been closed.
func closings(end int) [][]call {
	return [][]call{
		{},
		{closeWrite(end)},
		{closeRead(end)},
		{closeWrite(end), closeRead(end)},
		{shut(end)},
	}
}

// capacities are some capacities of both streams.
var capacities = [][2]int{{0, 0}, {0, 2}, {2, 0}, {1, 3}}

// histories goes over what may have happened to a connection.
func histories(yield func([]call) bool) {
	for _, first := range traffic(0) {
		for _, second := range traffic(1) {
			for _, here := range closings(0) {
				for _, there := range closings(1) {
					if !yield(slices.Concat(first, second, here, there)) {
						return
					}
				}
			}
		}
	}
}

// inEachSituation tests something with a connection, and with its model, in each situation that differs from those before.
func inEachSituation(t *testing.T, test func(d *duplex.Duplex, m *model)) {
	t.Helper()
	seen := map[look]bool{}
	for _, c := range capacities {
		for history := range histories {
			d, m := opened(t, c[0], c[1]), fresh(c[0], c[1])
			both(t, d, m, history...)
			now := lookOf(m.State())
			if !seen[now] {
				seen[now] = true
				test(d, m)
			}
			if t.Failed() {
				t.Fatalf("the situation %+v", now)
			}
		}
	}
}

// P15.1

func TestNewConnectionsAreOpenAndEmpty(t *testing.T) {
	some := []int{0, 1, 2, 3, 64, 1000, api.MaxBuffer - 1, api.MaxBuffer}
	for _, first := range some {
		for _, second := range some {
			d, other := opened(t, first, second), opened(t, first, second)
			want := look{streams: [2]streamLook{{capacity: first}, {capacity: second}}}
			if got := lookOf(d.State()); got != want {
				t.Errorf("New(%d, %d) has the state %s", first, second, text(got))
			}
			expect(t, d, fresh(first, second))
			for _, c := range []call{begin(0, "ab"), begin(1, "cd"), read(1, 1), shut(0), closeRead(1)} {
				c.do(d)
			}
			expect(t, other, fresh(first, second))
			expect(t, opened(t, first, second), fresh(first, second))
		}
	}
}

func TestNewWithEachCapacity(t *testing.T) {
	data := long(api.MaxBuffer + 1)
	for first := 0; first <= api.MaxBuffer; first++ {
		second := api.MaxBuffer - first
		d := opened(t, first, second)
		all(t, d,
			gets{begin(0, data), ok},
			gets{begin(1, data), ok},
			gets{progress(0), stands(first, false)},
			gets{progress(1), stands(second, false)},
		)
		if s := d.State(); s.Streams[0].Cap != first || s.Streams[1].Cap != second {
			t.Errorf("New(%d, %d) has the capacities %d and %d", first, second, s.Streams[0].Cap, s.Streams[1].Cap)
		}
		if t.Failed() {
			t.FailNow()
		}
	}
}

func TestNewWithCapacitiesThatAreNotAllowed(t *testing.T) {
	refused := func(first, second int) {
		if d, e := duplex.New(first, second); d != nil || e != api.ErrArg {
			t.Errorf("New(%d, %d) = %v, %d", first, second, d, e)
		}
	}
	for _, no := range noCapacities {
		for _, yes := range []int{0, 1, api.MaxBuffer} {
			refused(no, yes)
			refused(yes, no)
		}
		for _, other := range noCapacities {
			refused(no, other)
		}
	}
}

// P15.2

// streamCalls returns calls at an end that do what layer 14 does.
func streamCalls(end int) []call {
	return []call{
		read(end, 0), read(end, 1), read(end, 2), read(end, 9), read(end, api.MaxData), read(end, -1), read(end, api.MaxData+1),
		begin(end), begin(end, "p"), begin(end, "pq", "", "rs"),
		progress(end), finish(end), cancel(end),
	}
}

// byLayer14 returns what a call at an end does to the state of a connection, by layer 14.
func byLayer14(c call, s api.ConnState) (answer, look) {
	number := c.end
	if c.name == "Read" {
		number = 1 - c.end
	}
	x, _ := stream.Restore(s.Streams[number])
	var a answer
	switch c.name {
	case "Read":
		p, e := x.Read(c.most)
		a = answer{bytes: string(p), code: e}
	case "Begin":
		a.code = x.Begin(of(c.parts...))
	case "Progress":
		a.n, a.yes = x.Progress()
	case "Finish":
		a.n, a.code = x.End()
	case "Cancel":
		a.n, a.code = x.Cancel()
	}
	s.Streams[number] = x.State()
	return a, lookOf(s)
}

func TestCallsDoWhatLayer14DoesInEachSituation(t *testing.T) {
	inEachSituation(t, func(d *duplex.Duplex, m *model) {
		for end := range 2 {
			for _, c := range streamCalls(end) {
				want, after := byLayer14(c, m.State())
				twin := d.Copy()
				if got := c.do(twin); got != want {
					t.Errorf("%s = %s, not %s", text(c), text(got), text(want))
				}
				if got := lookOf(twin.State()); got != after {
					t.Errorf("after %s the state is %s, not %s", text(c), text(got), text(after))
				}
			}
		}
		shows(t, d, m)
	})
}

func TestEachEndReadsWhatTheOtherOneWrites(t *testing.T) {
	for _, c := range capacities {
		for end := range 2 {
			d := opened(t, c[0], c[1])
			all(t, d,
				gets{begin(end, "mine"), ok},
				gets{read(end, 9), code(api.ErrBlock)},
				gets{begin(1-end, "yours"), ok},
				gets{begin(end, "more"), code(api.ErrBusy)},
				gets{read(end, 1), bytesOf("y")},
				gets{read(1-end, 1), bytesOf("m")},
				gets{progress(end), stands(1+c[end], c[end] > 2)},
				gets{cancel(end), ended(1+c[end], api.OK)},
				gets{cancel(end), code(api.ErrState)},
				gets{finish(end), code(api.ErrState)},
				gets{progress(end), stands(0, false)},
				gets{progress(1 - end), stands(1+c[1-end], c[1-end] > 3)},
			)
		}
	}
}

func TestBeginWithMostBytes(t *testing.T) {
	whole := long(api.MaxData)
	for _, c := range [][2]int{{0, 0}, {1, api.MaxBuffer}, {api.MaxBuffer, 7}, {1000, 0}} {
		d := opened(t, c[0], c[1])
		for end := range 2 {
			all(t, d, gets{begin(end, whole[:1], whole[1:50000], whole[50000:]), ok}, gets{progress(end), stands(c[end], false)})
		}
		for end := range 2 {
			var got []byte
			for len(got) < len(whole) && !t.Failed() {
				p, e := d.Read(end, api.MaxData)
				if got = append(got, p...); e != api.OK {
					t.Errorf("Read = %d bytes, %d", len(p), e)
				}
			}
			if string(got) != whole {
				t.Errorf("%v: other bytes were read", c)
			}
			all(t, d, gets{finish(1 - end), ended(api.MaxData, api.OK)}, gets{read(end, 1), code(api.ErrBlock)})
		}
	}
}

func TestCallsShareNoMemory(t *testing.T) {
	for _, c := range capacities {
		d := opened(t, c[0], c[1])
		r := of("abc", "", "def")
		for end := range 2 {
			if e := d.Begin(end, r); e != api.OK {
				t.Errorf("Begin = %d", e)
			}
		}
		var got [2]string
		for range 6 {
			for end := range 2 {
				p, _ := d.Read(end, 1)
				got[end] += string(p)
				spoil(p)
				spoilState(d.State())
			}
		}
		if got != [2]string{"abcdef", "abcdef"} || string(r.Bytes()) != "abcdef" {
			t.Errorf("%v: %q was read of %q", c, got, r.Bytes())
		}
	}
}

// P15.3

// afterCloseWrite returns what closing the writing at an end does to a state.
func afterCloseWrite(x look, end int) (look, api.Errno) {
	s := &x.streams[end]
	if s.write != api.OK {
		return x, api.ErrClosed
	}
	s.write = api.ErrEOF
	return x, api.OK
}

// afterCloseRead returns what closing the reading at an end does to a state.
func afterCloseRead(x look, end int) (look, api.Errno) {
	s := &x.streams[1-end]
	if s.read != api.OK {
		return x, api.ErrClosed
	}
	s.read, s.buffer = api.ErrClosed, ""
	return x, api.OK
}

// afterClose returns what closing an end does to a state.
func afterClose(x look, end int) (look, api.Errno) {
	if x.closed[end] {
		return x, api.ErrClosed
	}
	x, _ = afterCloseRead(x, end)
	x, _ = afterCloseWrite(x, end)
	x.closed[end] = true
	return x, api.OK
}

func TestClosingInEachSituation(t *testing.T) {
	inEachSituation(t, func(d *duplex.Duplex, m *model) {
		for end := range 2 {
			for c, after := range map[string]func(look, int) (look, api.Errno){"Close": afterClose, "CloseRead": afterCloseRead, "CloseWrite": afterCloseWrite} {
				twin, now := d.Copy(), lookOf(d.State())
				for range 2 {
					state, want := after(now, end)
					if got := (call{name: c, end: end}).do(twin); got != code(want) {
						t.Errorf("%s: %s(%d) = %s, not %d", text(now), c, end, text(got), want)
					}
					if got := lookOf(twin.State()); got != state {
						t.Errorf("%s: after %s(%d) the state is %s, not %s", text(now), c, end, text(got), text(state))
					}
					for e := range 2 {
						all(t, twin, gets{closed(e), is(state.closed[e])})
					}
					now = state
				}
			}
		}
		shows(t, d, m)
	})
}

func TestClosedTellsOfCloseAlone(t *testing.T) {
	for end := range 2 {
		d := opened(t, 1, 1)
		for _, c := range []call{closeRead(end), closeWrite(end), closeRead(1 - end), closeWrite(1 - end)} {
			all(t, d, gets{c, ok}, gets{closed(0), is(false)}, gets{closed(1), is(false)}, gets{c, code(api.ErrClosed)})
		}
		all(t, d,
			gets{shut(end), ok}, gets{closed(end), is(true)}, gets{closed(1 - end), is(false)}, gets{shut(end), code(api.ErrClosed)},
			gets{shut(1 - end), ok}, gets{closed(end), is(true)}, gets{closed(1 - end), is(true)}, gets{shut(1 - end), code(api.ErrClosed)},
		)
	}
}

func TestAfterCloseItsOwnCallsAreClosedAndTheOtherEndReadsTheRest(t *testing.T) {
	for end := range 2 {
		d := opened(t, 3, 3)
		all(t, d,
			gets{begin(end, "abcde"), ok},
			gets{begin(1-end, "vwxyz"), ok},
			gets{shut(end), ok},

			gets{read(end, 1), code(api.ErrClosed)},
			gets{read(end, 0), code(api.ErrClosed)},
			gets{begin(end, "f"), code(api.ErrClosed)},
			gets{begin(end), code(api.ErrClosed)},
			gets{shut(end), code(api.ErrClosed)},
			gets{closeRead(end), code(api.ErrClosed)},
			gets{closeWrite(end), code(api.ErrClosed)},
			gets{finish(end), ended(3, api.ErrClosed)},

			gets{finish(1 - end), ended(3, api.ErrClosed)},
			gets{begin(1-end, "z"), code(api.ErrClosed)},
			gets{begin(1 - end), code(api.ErrClosed)},
			gets{read(1-end, 2), bytesOf("ab")},
			gets{read(1-end, 0), ok},
			gets{read(1-end, 2), bytesOf("c")},
			gets{read(1-end, 2), code(api.ErrEOF)},
			gets{read(1-end, 2), code(api.ErrEOF)},
			gets{closeRead(1 - end), ok},
			gets{read(1-end, 2), code(api.ErrClosed)},
			gets{closeWrite(1 - end), ok},
		)
	}
}

func TestOneDirectionIsClosedAlone(t *testing.T) {
	for end := range 2 {
		d := opened(t, 2, 2)
		all(t, d,
			gets{begin(end, "ab"), ok},
			gets{closeWrite(end), ok},
			gets{finish(end), ended(2, api.OK)},
			gets{begin(end, "c"), code(api.ErrClosed)},
			gets{begin(1-end, "xyz"), ok},
			gets{read(end, 9), bytesOf("xy")},
			gets{read(1-end, 1), bytesOf("a")},
			gets{closeRead(1 - end), ok},
			gets{read(1-end, 1), code(api.ErrClosed)},
			gets{finish(1 - end), ended(3, api.OK)},
			gets{read(end, 9), bytesOf("z")},
			gets{read(end, 9), code(api.ErrBlock)},
			gets{closeRead(end), ok},
			gets{begin(1-end, "w"), code(api.ErrClosed)},
			gets{closeWrite(1 - end), ok},
			gets{shut(end), ok},
			gets{shut(1 - end), ok},
		)
	}
}

// Errors

// eachCall returns calls of all methods at an end, among them some with numbers of bytes that are not allowed.
func eachCall(end int) []call {
	return slices.Concat(streamCalls(end), []call{shut(end), closeRead(end), closeWrite(end), closed(end)})
}

func TestEndsThatThereAreNot(t *testing.T) {
	inEachSituation(t, func(d *duplex.Duplex, m *model) {
		for _, end := range noEnds {
			for _, c := range eachCall(end) {
				want := code(api.ErrArg)
				if c.name == "Progress" || c.name == "Closed" {
					want = answer{}
				}
				all(t, d, gets{c, want})
			}
		}
		shows(t, d, m)
	})
}

func TestNumbersThatMayNotBeRead(t *testing.T) {
	inEachSituation(t, func(d *duplex.Duplex, m *model) {
		for _, most := range noSizes {
			for end := range 2 {
				all(t, d, gets{read(end, most), code(api.ErrArg)})
			}
		}
		shows(t, d, m)
	})
}

func TestOrderOfErrors(t *testing.T) {
	d := opened(t, 1, 1)
	all(t, d,
		gets{begin(0, "abc"), ok},
		gets{begin(0, "abc"), code(api.ErrBusy)},
		gets{closeRead(1), ok},
		// The code of the reading end comes before ErrBusy, and the writing end before both.
		gets{begin(0, "abc"), code(api.ErrClosed)},
		gets{cancel(0), ended(1, api.OK)},
		gets{cancel(0), code(api.ErrState)},
		gets{shut(0), ok},
		gets{shut(2), code(api.ErrArg)},
		gets{closeRead(2), code(api.ErrArg)},
		gets{closeWrite(-1), code(api.ErrArg)},
		gets{read(0, -1), code(api.ErrArg)},
		gets{read(2, -1), code(api.ErrArg)},
		gets{read(0, 1), code(api.ErrClosed)},
		gets{finish(2), code(api.ErrArg)},
		gets{finish(0), code(api.ErrState)},
	)
}

func TestConnectionsThatAreNilOrZero(t *testing.T) {
	var none *duplex.Duplex
	for i, d := range []*duplex.Duplex{none, {}, new(duplex.Duplex)} {
		for _, end := range append([]int{0, 1}, noEnds...) {
			for _, c := range eachCall(end) {
				want := code(api.ErrNil)
				if c.name == "Progress" || c.name == "Closed" {
					want = answer{}
				}
				all(t, d, gets{c, want})
			}
		}
		if s := d.State(); lookOf(s) != (look{}) || s.Streams[0].Buffer != nil || s.Streams[1].Rest != nil {
			t.Errorf("%d: State() = %s", i, text(s))
		}
		if c := d.Copy(); c != nil {
			t.Errorf("%d: Copy() = %v", i, c)
		}
	}
}

// P15.4

func TestStateRestoreAndCopyInEachSituation(t *testing.T) {
	inEachSituation(t, func(d *duplex.Duplex, m *model) {
		s := d.State()
		if !duplex.Valid(s) {
			t.Errorf("Valid(%s) = false", text(lookOf(s)))
		}
		expect(t, d, m)
	})
}

func TestCopiesAndRestoredConnectionsGoOnIndependently(t *testing.T) {
	inEachSituation(t, func(d *duplex.Duplex, m *model) {
		for end := range 2 {
			for _, c := range []call{read(end, 2), begin(end, "p", "q"), finish(end), cancel(end), shut(end), closeRead(end), closeWrite(end)} {
				first, second, third := d.Copy(), d.Copy(), restored(t, d.State())
				fourth := first.Copy()
				both(t, first, m.twin(), c)
				shows(t, d, m)
				shows(t, second, m)
				both(t, third, m.twin(), c)
				shows(t, d, m)
				shows(t, fourth, m)
				// What becomes of a connection does not change its copy either.
				both(t, second, m.twin(), c)
				shows(t, fourth, m)
			}
		}
	})
}

func TestStatesShareNoMemory(t *testing.T) {
	inEachSituation(t, func(d *duplex.Duplex, m *model) {
		before := lookOf(d.State())
		s := d.State()
		twin, again := restored(t, s), d.Copy()
		for end := range 2 {
			for range 4 {
				p, _ := twin.Read(end, 1)
				spoil(p)
				p, _ = again.Read(end, 1)
				spoil(p)
			}
		}
		if lookOf(s) != before {
			t.Errorf("the state %s has become %s", text(before), text(lookOf(s)))
		}
		other, last := restored(t, s), d.Copy()
		spoilState(s)
		spoilState(last.State())
		s.Closed = [2]bool{!s.Closed[0], !s.Closed[1]}
		shows(t, d, m)
		shows(t, other, m)
		shows(t, last, m)
	})
}

// valid reports whether a state is valid, as the chapter says it.
func valid(s api.ConnState) bool {
	there, back := s.Streams[0], s.Streams[1]
	for _, x := range []api.StreamState{there, back} {
		if !stream.Valid(x) {
			return false
		}
		if !slices.Contains([]api.Errno{api.OK, api.ErrEOF}, x.Write) || !slices.Contains([]api.Errno{api.OK, api.ErrClosed}, x.Read) {
			return false
		}
	}
	if s.Closed[0] && (there.Write == api.OK || back.Read == api.OK) {
		return false
	}
	return !s.Closed[1] || back.Write != api.OK && there.Read != api.OK
}

// shapes returns states of streams that are open, valid or not.
func shapes() []api.StreamState {
	return []api.StreamState{
		{},
		{Cap: 2},
		{Cap: 2, Buffer: []byte{}, Rest: []byte{}},
		{Cap: 2, Buffer: []byte("a")},
		{Cap: 2, Buffer: []byte("ab"), Busy: true, Rest: []byte("c"), Accepted: 3},
		{Cap: 2, Buffer: []byte("a"), Busy: true, Rest: []byte("c"), Accepted: 3},
		{Cap: 0, Busy: true, Rest: []byte("xyz")},
		{Cap: api.MaxBuffer, Busy: true, Accepted: api.MaxData},
		{Cap: api.MaxBuffer, Busy: true, Accepted: api.MaxData + 1},
		{Cap: 2, Buffer: []byte("abc")},
		{Cap: -1},
		{Cap: api.MaxBuffer + 1},
		{Cap: 1, Rest: []byte("a")},
		{Cap: 1, Accepted: 1},
	}
}

// codes are error codes with which an end may or may not have been closed.
var codes = []api.Errno{api.OK, api.ErrEOF, api.ErrClosed, api.ErrTimeout, api.ErrRefused, api.ErrBlock, 1, stream.MaxCode, stream.MaxCode + 1, -1, -13, math.MaxInt, math.MinInt}

// closedWays returns a state of a stream with each end open or closed with each error code.
func closedWays(x api.StreamState) []api.StreamState {
	var list []api.StreamState
	for _, x.Write = range codes {
		for _, x.Read = range codes {
			list = append(list, x)
		}
	}
	return list
}

// accepts checks what Valid and Restore do with a state.
func accepts(t *testing.T, s api.ConnState) {
	t.Helper()
	want := valid(s)
	if got := duplex.Valid(s); got != want {
		t.Errorf("Valid(%.300s) = %t", text(lookOf(s)), got)
	}
	d, e := duplex.Restore(s)
	switch {
	case !want && (d != nil || e != api.ErrArg), want && (d == nil || e != api.OK):
		t.Errorf("Restore(%.300s) = %v, %d", text(lookOf(s)), d, e)
	case want && lookOf(d.State()) != lookOf(s):
		t.Errorf("Restore(%.300s) has the state %.300s", text(lookOf(s)), text(lookOf(d.State())))
	}
}

// acceptsBoth checks states with two streams, in both orders, and each end closed or not.
func acceptsBoth(t *testing.T, x, y api.StreamState) {
	t.Helper()
	for i := range 4 {
		ways := [2]bool{i&1 > 0, i&2 > 0}
		accepts(t, api.ConnState{Streams: [2]api.StreamState{x, y}, Closed: ways})
		accepts(t, api.ConnState{Streams: [2]api.StreamState{y, x}, Closed: ways})
	}
	if t.Failed() {
		t.FailNow()
	}
}

func TestValidAndRestoreOfEachShape(t *testing.T) {
	few := []api.StreamState{{}, {Write: api.ErrEOF}, {Read: api.ErrClosed}, {Cap: 3, Write: api.ErrEOF, Read: api.ErrClosed}, {Cap: -1, Write: api.ErrEOF, Read: api.ErrClosed}}
	for _, shape := range shapes() {
		for _, x := range closedWays(shape) {
			for _, y := range few {
				acceptsBoth(t, x, y)
			}
		}
	}
}

func TestValidAndRestoreOfEachTwoShapes(t *testing.T) {
	for _, x := range shapes() {
		for _, y := range shapes() {
			acceptsBoth(t, x, y)
			x.Write, y.Read = api.ErrEOF, api.ErrClosed
			acceptsBoth(t, x, y)
			y.Write, x.Read = api.ErrEOF, api.ErrClosed
			acceptsBoth(t, x, y)
		}
	}
}

func TestValidAndRestoreOfEachTwoWaysOfClosing(t *testing.T) {
	for _, x := range closedWays(api.StreamState{Cap: 1}) {
		for _, y := range closedWays(api.StreamState{}) {
			acceptsBoth(t, x, y)
		}
	}
}

func TestRestoredConnectionsGoOn(t *testing.T) {
	for _, x := range shapes() {
		for i := range 8 {
			s := api.ConnState{Streams: [2]api.StreamState{x, {Cap: 3, Buffer: []byte("pq")}}}
			if i&1 > 0 {
				s.Streams[0].Write = api.ErrEOF
			}
			if i&2 > 0 {
				s.Streams[0].Read, s.Streams[0].Buffer = api.ErrClosed, nil
			}
			if i&4 > 0 {
				s.Streams[1].Write = api.ErrEOF
			}
			s.Closed[1] = i&6 == 6
			if valid(s) {
				expect(t, restored(t, s), modelOf(s))
				slices.Reverse(s.Streams[:])
				slices.Reverse(s.Closed[:])
				expect(t, restored(t, s), modelOf(s))
			}
		}
	}
}

// P15.5

// chance returns a call by chance, which closes something only seldom.
func chance(random *rand.Rand) call {
	end := random.Intn(2)
	switch kind := random.Intn(300); {
	case kind < 90:
		data := long(251)[random.Intn(200):][:random.Intn(20)]
		cut := random.Intn(len(data) + 1)
		return begin(end, data[:cut], data[cut:])
	case kind < 190:
		return read(end, random.Intn(9))
	case kind < 240:
		return finish(end)
	case kind < 260:
		return cancel(end)
	case kind < 280:
		return progress(end)
	case kind < 283:
		return []call{closeRead(end), closeWrite(end), shut(end)}[kind-280]
	case kind < 290:
		return eachCall([]int{-1, 2}[end])[random.Intn(len(eachCall(0)))]
	}
	return closed(end)
}

// walk returns some calls by chance.
func walk(random *rand.Rand, n int) []call {
	var calls []call
	for range n {
		calls = append(calls, chance(random))
	}
	return calls
}

// someCapacity returns a capacity by chance, mostly a small one.
func someCapacity(random *rand.Rand) int {
	return random.Intn([]int{1, 2, 5, 20, 300}[random.Intn(5)])
}

// inWalks tests something with walks, and with the capacities of both streams.
func inWalks(t *testing.T, test func(random *rand.Rand, calls []call, first, second int)) {
	t.Helper()
	for seed := range 200 {
		random := rand.New(rand.NewSource(int64(seed)))
		test(random, walk(random, 200), someCapacity(random), someCapacity(random))
		if t.Failed() {
			t.Fatalf("seed %d", seed)
		}
	}
}

func TestWalksAgreeWithTheModel(t *testing.T) {
	inWalks(t, func(random *rand.Rand, calls []call, first, second int) {
		d, m := opened(t, first, second), fresh(first, second)
		for i, c := range calls {
			both(t, d, m, c)
			switch i % 20 {
			case 5:
				d = d.Copy()
			case 15:
				d = restored(t, d.State())
			}
		}
		expect(t, d, m)
	})
}

func TestAllShortHistoriesAgreeWithTheModel(t *testing.T) {
	var calls []call
	for end := range 2 {
		calls = append(calls, begin(end, []string{"ab", "xy"}[end]), read(end, 1), cancel(end), shut(end), closeRead(end), closeWrite(end))
	}
	var goOn func(d *duplex.Duplex, m *model, more int)
	goOn = func(d *duplex.Duplex, m *model, more int) {
		for _, c := range calls {
			if more == 0 || t.Failed() {
				return
			}
			twin, after := d.Copy(), m.twin()
			both(t, twin, after, c)
			goOn(twin, after, more-1)
		}
	}
	for _, c := range [][2]int{{0, 1}, {1, 0}} {
		goOn(opened(t, c[0], c[1]), fresh(c[0], c[1]), 4)
	}
}

// ledger is a connection with what has become of all bytes, by the ends that have written them.
type ledger struct {
	duplex *duplex.Duplex
	// accepted has the bytes of the writes that have ended which were accepted, and write all bytes of the last one, as long as it is under way.
	accepted, write, read [2]string
	// over says whose writing was closed, and closing whether anything was.
	over    [2]bool
	closing bool
}

// sent returns all bytes from an end that were accepted.
func (l *ledger) sent(end int) string {
	n, _ := l.duplex.Progress(end)
	return l.accepted[end] + l.write[end][:n]
}

// do carries out a call at an end, and writes down what becomes of the bytes.
func (l *ledger) do(c call) answer {
	end := c.end
	n, _ := l.duplex.Progress(end)
	busy := isEnd(end) && l.duplex.State().Streams[end].Busy
	a := c.do(l.duplex)
	switch {
	case !isEnd(end):
	case c.name == "Begin" && a.code == api.OK:
		l.write[end] = strings.Join(c.parts, "")
	case busy && !l.duplex.State().Streams[end].Busy:
		l.accepted[end] += l.write[end][:n]
		l.write[end] = ""
	case c.name == "Read":
		l.read[1-end] += a.bytes
	case c.name == "Close", c.name == "CloseWrite":
		l.over[end], l.closing = true, true
	case c.name == "CloseRead":
		l.closing = true
	}
	return a
}

// check checks what follows from the promises after a call.
func (l *ledger) check(t *testing.T, c call, a answer) {
	t.Helper()
	for end := range 2 {
		if !strings.HasPrefix(l.sent(end), l.read[end]) {
			t.Errorf("%q was read, and %q accepted", l.read[end], l.sent(end))
		}
	}
	if a.code == api.ErrClosed && !l.closing {
		t.Errorf("%s = %s, and nothing was closed", text(c), text(a))
	}
	if a.code == api.ErrEOF && (c.name != "Read" || !l.over[1-c.end] || l.read[1-c.end] != l.sent(1-c.end)) {
		t.Errorf("%s = %s after %q of %q", text(c), text(a), l.read[1-c.end], l.sent(1-c.end))
	}
}

func TestWhatOneEndReadsIsTheBeginningOfWhatTheOtherHasWritten(t *testing.T) {
	inWalks(t, func(random *rand.Rand, calls []call, first, second int) {
		l := &ledger{duplex: opened(t, first, second)}
		for _, c := range calls {
			l.check(t, c, l.do(c))
		}
		for end := range 2 {
			c := shut(end)
			l.check(t, c, l.do(c))
		}
	})
}

// stream0 returns what a call does to the stream that the end 0 writes, as a call that does nothing else, and reports whether there is such a call.
func stream0(c call) (call, bool) {
	switch c.name {
	case "Closed":
		return c, false
	case "Read", "CloseRead":
		return c, c.end == 1
	case "Close":
		if !isEnd(c.end) {
			return c, false
		}
		c.name = []string{"CloseWrite", "CloseRead"}[c.end]
		return c, true
	}
	return c, c.end == 0
}

func TestTheDirectionsDoNotMatterToEachOther(t *testing.T) {
	inWalks(t, func(random *rand.Rand, calls []call, first, second int) {
		d, alone := opened(t, first, second), opened(t, first, 0)
		for _, c := range calls {
			a := c.do(d)
			if only, does := stream0(c); does {
				// Close does not mind what was closed before, so its answer may be another one.
				if b := only.do(alone); a != b && c.name != "Close" {
					t.Errorf("%s = %s, and %s alone", text(c), text(a), text(b))
				}
			}
			x, y := d.State(), alone.State()
			x.Streams[1], y.Streams[1] = api.StreamState{}, api.StreamState{}
			x.Closed, y.Closed = [2]bool{}, [2]bool{}
			if lookOf(x) != lookOf(y) {
				t.Fatalf("after %s: %s, and %s alone", text(c), text(lookOf(x)), text(lookOf(y)))
			}
		}
	})
}

func TestThePartsOfAWriteDoNotMatter(t *testing.T) {
	inWalks(t, func(random *rand.Rand, calls []call, first, second int) {
		d, other := opened(t, first, second), opened(t, first, second)
		for _, c := range calls {
			divided := c
			divided.parts = strings.Split(strings.Join(c.parts, ""), "")
			if a, b := c.do(d), divided.do(other); a != b || lookOf(d.State()) != lookOf(other.State()) {
				t.Fatalf("%s = %s, and %s in other parts", text(c), text(a), text(b))
			}
		}
	})
}

// turned returns a state with the names of the ends changed.
func turned(x look) look {
	slices.Reverse(x.streams[:])
	slices.Reverse(x.closed[:])
	return x
}

func TestTheNamesOfTheEndsDoNotMatter(t *testing.T) {
	inWalks(t, func(random *rand.Rand, calls []call, first, second int) {
		d, other := opened(t, first, second), opened(t, second, first)
		for _, c := range calls {
			a := c.do(d)
			c.end = 1 - c.end
			if b := c.do(other); a != b || lookOf(d.State()) != turned(lookOf(other.State())) {
				t.Fatalf("%s = %s, and %s with the names changed", text(c), text(b), text(a))
			}
		}
	})
}

// sender is an end that writes a text, at most some bytes with each write, and reads at most some bytes at one time until there is an error that is not ErrBlock.
type sender struct {
	end     int
	left    string
	in, out int
	got     string
	code    api.Errno
}

// step lets a sender go on.
func (s *sender) step(d *duplex.Duplex) {
	if s.left != "" && d.Begin(s.end, of(s.left[:min(s.in, len(s.left))])) == api.OK {
		s.left = s.left[min(s.in, len(s.left)):]
	}
	if d.Finish(s.end); s.left == "" && !d.State().Streams[s.end].Busy {
		d.CloseWrite(s.end)
	}
	if s.code == api.OK || s.code == api.ErrBlock {
		var p []byte
		p, s.code = d.Read(s.end, s.out)
		s.got += string(p)
	}
}

func TestBothEndsGetAllBytesAndThenTheEnd(t *testing.T) {
	data := []string{long(60), long(251)[200:]}
	for _, c := range capacities {
		for i := range 81 {
			d := opened(t, c[0], c[1])
			senders := []*sender{{end: 0, left: data[0], in: 1 + i%9, out: 1 + i/9}, {end: 1, left: data[1], in: 1 + i/9, out: 1 + i%9}}
			for range 300 {
				for _, s := range senders {
					s.step(d)
				}
			}
			for _, s := range senders {
				if s.got != data[1-s.end] || s.code != api.ErrEOF {
					t.Errorf("%v, %d: the end %d has got %q and the error %d", c, i, s.end, s.got, s.code)
				}
			}
		}
	}
}
