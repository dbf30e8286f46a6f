package stream_test

import (
	"bytes"
	"fmt"
	"math"
	"math/rand"
	"slices"
	"strings"
	"testing"

	"aqueduct/api"
	"aqueduct/flow"
	"aqueduct/meet"
	"aqueduct/rope"
	"aqueduct/stream"
)

// below are numbers that are below 0.
var below = []int{-1, -2, -api.MaxData, -1 << 32, math.MinInt + 1, math.MinInt}

// great are numbers that are more than any call may read.
var great = []int{api.MaxData + 1, api.MaxData + 2, 1 << 31, 1 << 32, 1<<32 + 1, math.MaxInt - 1, math.MaxInt}

// codes are some error codes with which an end may be closed, among them all that a stream returns itself.
var codes = []api.Errno{api.ErrNil, api.ErrArg, api.ErrState, api.ErrNone, api.ErrBusy, api.ErrTimeout, api.ErrEOF, api.ErrClosed, api.ErrBlock, 17, 150, 999, 1000}

// wrong are error codes with which no end may be closed.
var wrong = []api.Errno{api.OK, -1, -13, 1001, 1002, 1 << 31, 1 << 32, 1<<32 + 13, math.MaxInt, math.MinInt, math.MinInt + 13}

// of returns the rope of some texts, which must be few and short enough for one.
func of(parts ...string) rope.Rope {
	var l [][]byte
	for _, p := range parts {
		l = append(l, []byte(p))
	}
	r, _ := rope.New(l...)
	return r
}

// long returns so many bytes, which repeat themselves after 251 of them.
func long(n int) string {
	p := make([]byte, n)
	for i := range p {
		p[i] = byte(i % 251)
	}
	return string(p)
}

// spoil writes into bytes and behind them.
func spoil(p []byte) {
	clear(append(p, "????????????"...))
	clear(p[:cap(p)])
}

// opened returns an open stream with a capacity.
func opened(t *testing.T, capacity int) *stream.Stream {
	t.Helper()
	s, e := stream.New(capacity)
	if s == nil || e != api.OK {
		t.Fatalf("New(%d) = %v, %d", capacity, s, e)
	}
	return s
}

// restored returns a stream with a state.
func restored(t *testing.T, want api.StreamState) *stream.Stream {
	t.Helper()
	s, e := stream.Restore(want)
	if s == nil || e != api.OK {
		t.Fatalf("Restore(%.200s) = %v, %d", textOf(want), s, e)
	}
	return s
}

// answers checks what Begin, CloseWrite or CloseRead returns.
func answers(t *testing.T, name string, code, want api.Errno) {
	t.Helper()
	if code != want {
		t.Errorf("%s = %d, not %d", name, code, want)
	}
}

// begins checks that Begin begins a write.
func begins(t *testing.T, s *stream.Stream, parts ...string) {
	t.Helper()
	answers(t, "Begin", s.Begin(of(parts...)), api.OK)
}

// stands checks what Progress returns.
func stands(t *testing.T, s *stream.Stream, want int, atEnd bool) {
	t.Helper()
	if n, is := s.Progress(); n != want || is != atEnd {
		t.Errorf("Progress() = %d, %t, not %d, %t", n, is, want, atEnd)
	}
}

// ends checks what End returns.
func ends(t *testing.T, s *stream.Stream, want int, how api.Errno) {
	t.Helper()
	if n, e := s.End(); n != want || e != how {
		t.Errorf("End() = %d, %d, not %d, %d", n, e, want, how)
	}
}

// cancels checks what Cancel returns.
func cancels(t *testing.T, s *stream.Stream, want int, code api.Errno) {
	t.Helper()
	if n, e := s.Cancel(); n != want || e != code {
		t.Errorf("Cancel() = %d, %d, not %d, %d", n, e, want, code)
	}
}

// gives checks that Read returns some bytes.
func gives(t *testing.T, s *stream.Stream, most int, want string) {
	t.Helper()
	if p, e := s.Read(most); string(p) != want || e != api.OK {
		t.Errorf("Read(%d) = %.40q, %d, not %.40q, OK", most, p, e, want)
	}
}

// withholds checks that Read returns an error.
func withholds(t *testing.T, s *stream.Stream, most int, want api.Errno) {
	t.Helper()
	if p, e := s.Read(most); len(p) != 0 || e != want {
		t.Errorf("Read(%d) = %.40q, %d, not %d", most, p, e, want)
	}
}

// situation is a list of calls, and the model that has carried them out.
type situation struct {
	calls []call
	model model
}

// key tells situations apart.
func (x situation) key() string { return fmt.Sprintf("%+v", x.model) }

// after returns the situation after one call more.
func (x situation) after(c call) situation {
	c.do(&x.model)
	return situation{slices.Concat(x.calls, []call{c}), x.model}
}

// situations returns all situations to which a stream with a capacity comes by some calls.
func situations(capacity int) []situation {
	steps := []call{begin(), begin("abc"), read(1), end(), cancel(), closeWrite(api.ErrEOF), closeRead(api.ErrTimeout)}
	list := []situation{{model: model{capacity: capacity}}}
	seen := map[string]bool{list[0].key(): true}
	for i := 0; i < len(list); i++ {
		for _, c := range steps {
			next := list[i].after(c)
			if !seen[next.key()] {
				seen[next.key()] = true
				list = append(list, next)
			}
		}
	}
	return list
}

// inEachSituation tests something with a stream in each situation, with each capacity up to three.
func inEachSituation(t *testing.T, test func(s *stream.Stream, m model)) {
	t.Helper()
	for capacity := range 4 {
		for _, x := range situations(capacity) {
			s := opened(t, capacity)
			for _, c := range x.calls {
				c.do(s)
			}
			test(s, x.model)
			if t.Failed() {
				t.Fatalf("the situation %+v", x.model)
			}
		}
	}
}

// The examples

func TestExampleWithABuffer(t *testing.T) {
	s := opened(t, 3)
	begins(t, s, "abcde")
	stands(t, s, 3, false)
	gives(t, s, 2, "ab")
	stands(t, s, 5, true)
	gives(t, s, 9, "cde")
	withholds(t, s, 9, api.ErrBlock)
	stands(t, s, 5, true)
	ends(t, s, 5, api.OK)

	begins(t, s, "fghij")
	answers(t, "CloseWrite(ErrEOF)", s.CloseWrite(api.ErrEOF), api.OK)
	ends(t, s, 3, api.ErrClosed)
	gives(t, s, 9, "fgh")
	withholds(t, s, 1, api.ErrEOF)
	answers(t, "Begin(k)", s.Begin(of("k")), api.ErrClosed)
}

func TestExampleWithoutABuffer(t *testing.T) {
	s := opened(t, 0)
	begins(t, s, "abc")
	stands(t, s, 0, false)
	answers(t, "Begin(x)", s.Begin(of("x")), api.ErrBusy)
	gives(t, s, 2, "ab")
	ends(t, s, 0, api.ErrBlock)
	cancels(t, s, 2, api.OK)
	withholds(t, s, 1, api.ErrBlock)

	begins(t, s, "d")
	answers(t, "CloseRead(ErrClosed)", s.CloseRead(api.ErrClosed), api.OK)
	ends(t, s, 0, api.ErrClosed)
	withholds(t, s, 0, api.ErrClosed)
	answers(t, "CloseRead(ErrClosed)", s.CloseRead(api.ErrClosed), api.ErrClosed)
}

func TestExampleOfArguments(t *testing.T) {
	for _, capacity := range []int{-1, 4097} {
		if s, e := stream.New(capacity); s != nil || e != api.ErrArg {
			t.Errorf("New(%d) = %v, %d", capacity, s, e)
		}
	}
	withholds(t, opened(t, 1), -1, api.ErrArg)
}

func TestMaxCode(t *testing.T) {
	if stream.MaxCode != 1000 {
		t.Errorf("MaxCode is %d", stream.MaxCode)
	}
}

// P14.1

func TestNewStreamsAreOpenAndEmpty(t *testing.T) {
	for _, capacity := range []int{0, 1, 2, 3, 5, 64, 1000, api.MaxBuffer - 1, api.MaxBuffer} {
		s, other := opened(t, capacity), opened(t, capacity)
		fresh := model{capacity: capacity}
		expect(t, s, fresh)
		begins(t, s, "ab")
		s.Read(1)
		s.End()
		answers(t, "CloseWrite", s.CloseWrite(api.ErrEOF), api.OK)
		answers(t, "CloseRead", s.CloseRead(api.ErrClosed), api.OK)
		expect(t, other, fresh)
		expect(t, opened(t, capacity), fresh)
	}
}

func TestNewWithEachCapacity(t *testing.T) {
	text := long(api.MaxBuffer + 2)
	for capacity := 0; capacity <= api.MaxBuffer; capacity++ {
		s := opened(t, capacity)
		m := model{capacity: capacity}
		both(t, s, &m, state(), begin(text), progress(), state(), read(1), progress(), end(), read(api.MaxBuffer), state(), end(), state())
		if t.Failed() {
			t.Fatalf("the capacity %d", capacity)
		}
	}
}

func TestNewWithCapacitiesThatAreNotValid(t *testing.T) {
	for _, capacity := range slices.Concat(below, great, []int{api.MaxBuffer + 1, api.MaxBuffer + 2, api.MaxData, -api.MaxBuffer}) {
		if s, e := stream.New(capacity); s != nil || e != api.ErrArg {
			t.Errorf("New(%d) = %v, %d", capacity, s, e)
		}
	}
}

// divided returns the ropes of some bytes, in different parts.
func divided(text string) []rope.Rope {
	middle := len(text) / 2
	return []rope.Rope{of(text), of(strings.Split(text, "")...), of("", text[:middle], "", "", text[middle:], ""), of(text[:min(1, len(text))], text[min(1, len(text)):])}
}

func TestBeginInEachSituation(t *testing.T) {
	inEachSituation(t, func(s *stream.Stream, m model) {
		for n := range 6 {
			for _, r := range divided("vwxyz"[:n]) {
				twin, after := s.Copy(), m
				code := twin.Begin(r)
				switch {
				case m.write != api.OK:
					answers(t, "Begin", code, api.ErrClosed)
				case m.read != api.OK:
					answers(t, "Begin", code, api.ErrTimeout)
				case m.busy:
					answers(t, "Begin", code, api.ErrBusy)
				default:
					answers(t, "Begin", code, api.OK)
					room := min(n, m.capacity-len(m.buffer))
					after.busy, after.accepted = true, room
					after.buffer, after.rest = m.buffer+"vwxyz"[:room], "vwxyz"[room:n]
				}
				expect(t, twin, after)
			}
		}
		expect(t, s, m)
	})
}

func TestBeginReturnsTheCodeOfTheReadingEnd(t *testing.T) {
	for _, code := range codes {
		for capacity := range 3 {
			for _, text := range []string{"", "abc"} {
				s := opened(t, capacity)
				begins(t, s, text)
				answers(t, "CloseRead", s.CloseRead(code), api.OK)
				for range 2 {
					answers(t, "Begin", s.Begin(of("x")), code)
					answers(t, "Begin", s.Begin(rope.Rope{}), code)
				}
				s.Cancel()
				answers(t, "Begin", s.Begin(of("x")), code)
				// Of two closed ends, the writing one comes first.
				answers(t, "CloseWrite", s.CloseWrite(77), api.OK)
				answers(t, "Begin", s.Begin(of("x")), api.ErrClosed)
			}
		}
	}
}

func TestBeginDoesNotTellTheCodeOfTheWritingEnd(t *testing.T) {
	for _, code := range codes {
		for capacity := range 3 {
			s := opened(t, capacity)
			begins(t, s, "abc")
			answers(t, "CloseWrite", s.CloseWrite(code), api.OK)
			answers(t, "Begin", s.Begin(of("x")), api.ErrClosed)
			s.Cancel()
			answers(t, "Begin", s.Begin(rope.Rope{}), api.ErrClosed)
		}
	}
}

func TestBeginWithMostBytes(t *testing.T) {
	whole := long(api.MaxData)
	var parts []string
	for p := range slices.Chunk([]byte(whole), api.MaxData/rope.MaxParts) {
		parts = append(parts, string(p))
	}
	for _, r := range []rope.Rope{of(whole), of(whole[:1], whole[1:40000], whole[40000:]), of(parts...)} {
		for _, capacity := range []int{0, 1, 7, 64, 65, 1000, api.MaxBuffer - 1, api.MaxBuffer} {
			s := opened(t, capacity)
			answers(t, "Begin", s.Begin(r), api.OK)
			both(t, s, &model{capacity: capacity, buffer: whole[:capacity], busy: true, rest: whole[capacity:], accepted: capacity}, state(), progress(), end())
			var got []byte
			for len(got) < len(whole) && !t.Failed() {
				p, e := s.Read(api.MaxData)
				if got = append(got, p...); e != api.OK {
					t.Fatalf("the capacity %d: Read = %d bytes, %d", capacity, len(p), e)
				}
			}
			if string(got) != whole {
				t.Errorf("the capacity %d: other bytes were read", capacity)
			}
			ends(t, s, api.MaxData, api.OK)
		}
	}
}

func TestBeginWithAllBytes(t *testing.T) {
	text := long(251) + "\xfb\xfc\xfd\xfe\xff"
	for _, capacity := range []int{0, 1, 100, 256, 300} {
		s := opened(t, capacity)
		begins(t, s, text)
		for i := range 256 {
			gives(t, s, 1, string([]byte{byte(i)}))
		}
		withholds(t, s, 1, api.ErrBlock)
		ends(t, s, 256, api.OK)
	}
}

func TestBeginChangesNoRope(t *testing.T) {
	for _, capacity := range []int{0, 2, 4, 9} {
		r := of("abc", "", "def")
		s := opened(t, capacity)
		answers(t, "Begin", s.Begin(r), api.OK)
		x := s.State()
		spoil(x.Buffer)
		spoil(x.Rest)
		for range 6 {
			p, _ := s.Read(1)
			spoil(p)
		}
		ends(t, s, 6, api.OK)
		answers(t, "Begin", s.Begin(r), api.OK)
		for i, part := range slices.Collect(r.Parts()) {
			if string(part) != []string{"abc", "def"}[i] {
				t.Errorf("part %d of the rope has become %q", i, part)
			}
		}
		if string(r.Bytes()) != "abcdef" || r.Len() != 6 {
			t.Errorf("the rope has become %q", r.Bytes())
		}
	}
}

// P14.2

func TestProgressEndAndCancelInEachSituation(t *testing.T) {
	inEachSituation(t, func(s *stream.Stream, m model) {
		idle := m
		idle.busy, idle.rest, idle.accepted = false, "", 0
		ended, canceled := s.Copy(), s.Copy()
		for range 2 {
			stands(t, s, m.accepted, m.busy && (m.rest == "" || !m.open()))
		}
		switch {
		case !m.busy:
			ends(t, ended, 0, api.ErrState)
			cancels(t, canceled, 0, api.ErrState)
		case m.rest == "":
			ends(t, ended, m.accepted, api.OK)
			cancels(t, canceled, m.accepted, api.OK)
		case m.write != api.OK:
			ends(t, ended, m.accepted, api.ErrClosed)
			cancels(t, canceled, m.accepted, api.OK)
		case m.read != api.OK:
			ends(t, ended, m.accepted, api.ErrTimeout)
			cancels(t, canceled, m.accepted, api.OK)
		default:
			ends(t, ended, 0, api.ErrBlock)
			expect(t, ended, m)
			ended.Cancel()
			cancels(t, canceled, m.accepted, api.OK)
		}
		for _, x := range []*stream.Stream{ended, canceled} {
			expect(t, x, idle)
			stands(t, x, 0, false)
			ends(t, x, 0, api.ErrState)
			cancels(t, x, 0, api.ErrState)
		}
		expect(t, s, m)
	})
}

func TestEndTellsEachCodeOfTheReadingEnd(t *testing.T) {
	for _, code := range codes {
		for capacity := range 3 {
			s := opened(t, capacity)
			begins(t, s, "abcd")
			gives(t, s, 1, "a")
			accepted := capacity + 1
			answers(t, "CloseRead", s.CloseRead(code), api.OK)
			stands(t, s, accepted, true)
			twin := s.Copy()
			ends(t, s, accepted, code)
			ends(t, s, 0, api.ErrState)
			stands(t, s, 0, false)
			// With both ends closed, the writing one comes first, whichever was closed first.
			answers(t, "CloseWrite", twin.CloseWrite(77), api.OK)
			ends(t, twin, accepted, api.ErrClosed)
		}
	}
}

func TestEndDoesNotTellTheCodeOfTheWritingEnd(t *testing.T) {
	for _, code := range codes {
		for capacity := range 3 {
			s := opened(t, capacity)
			begins(t, s, "abc")
			answers(t, "CloseWrite", s.CloseWrite(code), api.OK)
			twin := s.Copy()
			ends(t, s, capacity, api.ErrClosed)
			answers(t, "CloseRead", twin.CloseRead(77), api.OK)
			ends(t, twin, capacity, api.ErrClosed)
		}
	}
}

func TestAWriteOfWhichNothingIsLeftEndsWithoutAnError(t *testing.T) {
	for capacity := range 4 {
		for _, text := range []string{"", "a", "abc"} {
			for ways := range 4 {
				s := opened(t, capacity)
				begins(t, s, text)
				for range len(text) {
					s.Read(1)
				}
				if ways&1 > 0 {
					answers(t, "CloseWrite", s.CloseWrite(api.ErrEOF), api.OK)
				}
				if ways&2 > 0 {
					answers(t, "CloseRead", s.CloseRead(api.ErrClosed), api.OK)
				}
				stands(t, s, len(text), true)
				ends(t, s, len(text), api.OK)
			}
		}
	}
}

func TestCancelDropsTheRestOnly(t *testing.T) {
	for capacity := range 4 {
		s := opened(t, capacity)
		begins(t, s, "abcdefgh")
		gives(t, s, 1, "a")
		cancels(t, s, capacity+1, api.OK)
		if capacity > 0 {
			gives(t, s, 9, "bcdefgh"[:capacity])
		}
		withholds(t, s, 9, api.ErrBlock)
		begins(t, s, "x")
		gives(t, s, 9, "x")
		ends(t, s, 1, api.OK)
	}
}

// P14.3

func TestReadInEachSituation(t *testing.T) {
	inEachSituation(t, func(s *stream.Stream, m model) {
		for _, most := range []int{1, 2, 3, 4, api.MaxBuffer, api.MaxData - 1, api.MaxData} {
			twin, after := s.Copy(), m
			there := m.buffer
			if m.capacity == 0 && m.open() {
				there = m.rest
			}
			n := min(most, len(there))
			switch {
			case m.read != api.OK:
				withholds(t, twin, most, api.ErrClosed)
			case n > 0:
				gives(t, twin, most, there[:n])
				more := 0
				if m.open() {
					more = min(n, len(m.rest))
				}
				after.rest, after.accepted = m.rest[more:], m.accepted+more
				if m.capacity > 0 {
					after.buffer = m.buffer[n:] + m.rest[:more]
				}
			case m.write != api.OK:
				withholds(t, twin, most, api.ErrEOF)
			default:
				withholds(t, twin, most, api.ErrBlock)
			}
			expect(t, twin, after)
		}
		expect(t, s, m)
	})
}

func TestReadOfNothingInEachSituation(t *testing.T) {
	inEachSituation(t, func(s *stream.Stream, m model) {
		want := api.OK
		if m.read != api.OK {
			want = api.ErrClosed
		}
		for range 2 {
			withholds(t, s, 0, want)
		}
		expect(t, s, m)
	})
}

func TestReadOfNumbersThatAreNotValid(t *testing.T) {
	inEachSituation(t, func(s *stream.Stream, m model) {
		for _, most := range slices.Concat(below, great) {
			withholds(t, s, most, api.ErrArg)
		}
		expect(t, s, m)
	})
}

func TestReadReturnsTheCodeOfTheWritingEndWhenAllWasRead(t *testing.T) {
	for _, code := range codes {
		for capacity := range 4 {
			for _, text := range []string{"", "ab", "abcdef"} {
				s := opened(t, capacity)
				begins(t, s, text)
				answers(t, "CloseWrite", s.CloseWrite(code), api.OK)
				for i := range min(capacity, len(text)) {
					gives(t, s, 1, text[i:i+1])
				}
				for range 2 {
					withholds(t, s, 1, code)
					withholds(t, s, api.MaxData, code)
				}
				gives(t, s, 0, "")
			}
		}
	}
}

func TestReadDoesNotTellTheCodeOfTheReadingEnd(t *testing.T) {
	for _, code := range codes {
		for capacity := range 3 {
			s := opened(t, capacity)
			begins(t, s, "abc")
			answers(t, "CloseRead", s.CloseRead(code), api.OK)
			withholds(t, s, 0, api.ErrClosed)
			withholds(t, s, 1, api.ErrClosed)
			answers(t, "CloseWrite", s.CloseWrite(77), api.OK)
			withholds(t, s, 1, api.ErrClosed)
		}
	}
}

func TestWhatIsReadIsNewMemory(t *testing.T) {
	for _, capacity := range []int{0, 1, 3, 8, 9} {
		s := opened(t, capacity)
		begins(t, s, "abcdefghijkl")
		var got []byte
		for range 3 {
			p, _ := s.Read(2)
			got = append(got, p...)
			spoil(p)
		}
		p, _ := s.Read(1)
		twin := s.Copy()
		q, _ := twin.Read(1)
		for range 12 {
			x, _ := s.Read(1)
			spoil(x)
		}
		ends(t, s, 12, api.OK)
		begins(t, s, "????????????")
		if want := "abcdef"[:len(got)]; string(got) != want {
			t.Errorf("the capacity %d: %q was read", capacity, got)
		}
		if want := "abcdefghijkl"[len(got):]; string(p)+string(q) != want[:2] {
			t.Errorf("the capacity %d: what was read has become %q and %q", capacity, p, q)
		}
	}
}

// P14.4

func TestCloseWriteAndCloseReadInEachSituation(t *testing.T) {
	for _, c := range []struct {
		name  string
		close func(s *stream.Stream, with api.Errno) api.Errno
		open  func(m model) bool
		set   func(m *model)
	}{
		{"CloseWrite", (*stream.Stream).CloseWrite, func(m model) bool { return m.write == api.OK }, func(m *model) { m.write = 15 }},
		{"CloseRead", (*stream.Stream).CloseRead, func(m model) bool { return m.read == api.OK }, func(m *model) { m.read, m.buffer = 15, "" }},
	} {
		inEachSituation(t, func(s *stream.Stream, m model) {
			for _, with := range wrong {
				answers(t, fmt.Sprintf("%s(%d)", c.name, with), c.close(s, with), api.ErrArg)
			}
			expect(t, s, m)
			if c.open(m) {
				answers(t, c.name+"(15)", c.close(s, 15), api.OK)
				c.set(&m)
				expect(t, s, m)
			}
			answers(t, c.name+"(15)", c.close(s, 15), api.ErrClosed)
			answers(t, c.name+"(14)", c.close(s, 14), api.ErrClosed)
			answers(t, c.name+"(0)", c.close(s, 0), api.ErrArg)
			answers(t, c.name+"(1001)", c.close(s, 1001), api.ErrArg)
			expect(t, s, m)
		})
	}
}

func TestCloseWithEachCode(t *testing.T) {
	for code := api.Errno(1); code <= stream.MaxCode; code++ {
		for capacity := range 2 {
			s, m := opened(t, capacity), model{capacity: capacity}
			both(t, s, &m, begin("ab"), closeWrite(code), state(), read(1), read(1), closeRead(1001-code), state(), end())
		}
	}
}

func TestTheEndsAreClosedInEitherOrder(t *testing.T) {
	inEachSituation(t, func(s *stream.Stream, m model) {
		if !m.open() {
			return
		}
		first, second := s.Copy(), s.Copy()
		both(t, first, &m, closeWrite(150), closeRead(151))
		answers(t, "CloseRead(151)", second.CloseRead(151), api.OK)
		answers(t, "CloseWrite(150)", second.CloseWrite(150), api.OK)
		expect(t, first, m)
		expect(t, second, m)
	})
}

// P14.5

func TestStateInEachSituation(t *testing.T) {
	inEachSituation(t, func(s *stream.Stream, m model) {
		for range 2 {
			x := s.State()
			if textOf(x) != textOf(m.State()) || !stream.Valid(x) {
				t.Errorf("State() = %s, %t", textOf(x), stream.Valid(x))
			}
			spoil(x.Buffer)
			spoil(x.Rest)
		}
		expect(t, s, m)
	})
}

// valid says what the document says of a state.
func valid(s api.StreamState) bool {
	isEnd := func(code api.Errno) bool { return code >= 0 && code <= 1000 }
	filled := !s.Busy || s.Write != api.OK || s.Read != api.OK || len(s.Rest) == 0 || len(s.Buffer) == s.Cap
	write := len(s.Rest) == 0 && s.Accepted == 0
	if s.Busy {
		write = s.Accepted >= 0 && uint64(s.Accepted)+uint64(len(s.Rest)) <= api.MaxData
	}
	return s.Cap >= 0 && s.Cap <= api.MaxBuffer && len(s.Buffer) <= s.Cap && isEnd(s.Write) && isEnd(s.Read) && (s.Read == api.OK || len(s.Buffer) == 0) && write && filled
}

// accepts checks what Valid and Restore say of a state, and returns the stream that has it, or nil.
func accepts(t *testing.T, x api.StreamState, want bool) *stream.Stream {
	t.Helper()
	if is := stream.Valid(x); is != want {
		t.Errorf("Valid(%.200s) = %t", textOf(x), is)
	}
	s, e := stream.Restore(x)
	switch {
	case want && (s == nil || e != api.OK), !want && (s != nil || e != api.ErrArg):
		t.Errorf("Restore(%.200s) = %v, %d", textOf(x), s, e)
	case want && textOf(s.State()) != textOf(x):
		t.Errorf("Restore(%.200s) has the state %.200s", textOf(x), textOf(s.State()))
	}
	return s
}

// eachState goes over states with all combinations of what can be right or wrong with them.
func eachState(yield func(api.StreamState) bool) {
	ends := []api.Errno{api.OK, 1, 13, 1000, 1001, -1, math.MinInt}
	counts := []int{0, 1, 7, api.MaxData - 2, api.MaxData - 1, api.MaxData, api.MaxData + 1, math.MaxInt, -1, math.MinInt}
	for _, capacity := range []int{0, 1, 2, 3, api.MaxBuffer, api.MaxBuffer + 1, math.MaxInt, -1, math.MinInt} {
		for i := range 4 * 2 * 3 {
			for _, accepted := range counts {
				for j := range len(ends) * len(ends) {
					x := api.StreamState{Cap: capacity, Buffer: []byte("abc")[:i%4], Busy: i/4%2 == 1, Rest: []byte("xy")[:i/8], Accepted: accepted, Write: ends[j%len(ends)], Read: ends[j/len(ends)]}
					if !yield(x) {
						return
					}
				}
			}
		}
	}
}

func TestValidAndRestoreOfEachState(t *testing.T) {
	for x := range eachState {
		s := accepts(t, x, valid(x))
		if s != nil && x.Cap < 4 && x.Accepted < 9 && x.Write < 20 && x.Read < 20 {
			expect(t, s, modelOf(x))
		}
		if t.Failed() {
			t.FailNow()
		}
	}
}

func TestValidAndRestoreOfGreatStates(t *testing.T) {
	text := []byte(long(api.MaxData + 1))
	for capacity := api.MaxBuffer - 1; capacity <= api.MaxBuffer+1; capacity++ {
		for count := capacity - 1; count <= capacity+1; count++ {
			for _, x := range []api.StreamState{
				{Cap: capacity, Buffer: text[:count]},
				{Cap: capacity, Buffer: text[:count], Busy: true, Accepted: api.MaxData},
				{Cap: capacity, Buffer: text[:count], Busy: true, Rest: text[:1], Accepted: 1},
				{Cap: capacity, Buffer: text[:count], Busy: true, Rest: text[:1], Accepted: 1, Write: 13},
				{Cap: capacity, Buffer: text[:count], Busy: true, Rest: text[:1], Accepted: 1, Read: 13},
			} {
				accepts(t, x, valid(x))
			}
		}
	}
	for _, n := range []int{api.MaxData - 1, api.MaxData, api.MaxData + 1} {
		for _, accepted := range []int{0, 1, 2, math.MaxInt, math.MaxInt - n, -1, math.MinInt, math.MinInt + n} {
			for _, write := range []api.Errno{api.OK, 13} {
				x := api.StreamState{Busy: true, Rest: text[:n], Accepted: accepted, Write: write}
				accepts(t, x, accepted >= 0 && accepted <= api.MaxData-n)
			}
		}
	}
	for n := range api.MaxData / 100 {
		x := api.StreamState{Cap: 1, Buffer: text[:1], Busy: true, Rest: text[:n*100], Accepted: api.MaxData - n*100}
		accepts(t, x, true)
		x.Accepted++
		accepts(t, x, false)
	}
}

func TestNilAndEmptyPartsOfStatesAreTheSame(t *testing.T) {
	for capacity := range 3 {
		for _, busy := range []bool{false, true} {
			x := api.StreamState{Cap: capacity, Busy: busy}
			y := api.StreamState{Cap: capacity, Busy: busy, Buffer: []byte{}, Rest: []byte{}}
			expect(t, accepts(t, x, true), modelOf(x))
			expect(t, accepts(t, y, true), modelOf(x))
		}
	}
}

func TestRestoreKeepsNothingOfTheState(t *testing.T) {
	for capacity := range 5 {
		x := api.StreamState{Cap: capacity, Buffer: []byte("abcd")[:capacity], Busy: true, Rest: []byte("wxyz"), Accepted: 3, Write: api.OK}
		want := textOf(x)
		s := restored(t, x)
		for range 6 {
			p, _ := s.Copy().Read(1)
			spoil(p)
			p, _ = restored(t, x).Read(3)
			spoil(p)
		}
		if textOf(x) != want {
			t.Errorf("the state %s has become %s", want, textOf(x))
		}
		m := modelOf(x)
		spoil(x.Buffer)
		spoil(x.Rest)
		expect(t, s, m)
	}
}

func TestRestoredStreamsGoOnIndependently(t *testing.T) {
	inEachSituation(t, func(s *stream.Stream, m model) {
		x := s.State()
		first, second := restored(t, x), restored(t, x)
		for _, c := range []call{begin("x", "yz"), read(2), cancel(), closeWrite(5), closeRead(6)} {
			after := modelOf(first.State())
			both(t, first, &after, c)
			expect(t, second, m)
		}
		expect(t, s, m)
	})
}

func TestCopyGoesOnIndependently(t *testing.T) {
	inEachSituation(t, func(s *stream.Stream, m model) {
		for _, c := range []call{begin("x", "yz"), read(1), read(9), end(), cancel(), closeWrite(5), closeRead(6)} {
			twin, after := s.Copy(), m
			both(t, twin, &after, c)
			expect(t, s, m)
			expect(t, twin, after)
			// What becomes of a stream does not change its copy.
			first, second, after := s.Copy(), s.Copy().Copy(), m
			third := first.Copy()
			both(t, first, &after, c)
			expect(t, second, m)
			expect(t, third, m)
		}
	})
}

func TestCopiesShareNoBytes(t *testing.T) {
	for capacity := range 8 {
		s := opened(t, capacity)
		begins(t, s, "abcdef")
		c := s.Copy()
		for range 3 {
			p, _ := s.Read(1)
			spoil(p)
			x := s.State()
			spoil(x.Buffer)
			spoil(x.Rest)
		}
		d := c.Copy()
		for i := range 6 {
			gives(t, c, 1, "abcdef"[i:i+1])
		}
		ends(t, c, 6, api.OK)
		begins(t, c, "??????")
		for i := range 6 {
			gives(t, d, 1, "abcdef"[i:i+1])
		}
		for i := range 3 {
			gives(t, s, 1, "def"[i:i+1])
		}
	}
}

// P14.6

// ledger is a stream with what was accepted from all writes that have ended, what was begun last, and what was read.
type ledger struct {
	stream   *stream.Stream
	accepted []byte
	write    string
	read     []byte
}

// begin begins a write, if the stream takes it.
func (l *ledger) begin(t *testing.T, text string) {
	t.Helper()
	room := l.stream.State()
	if l.stream.Begin(of(text)) != api.OK {
		return
	}
	l.write = text
	if n, atEnd := l.stream.Progress(); len(text) <= room.Cap-len(room.Buffer) && (n != len(text) || !atEnd) {
		t.Errorf("Progress() = %d, %t for %d bytes with room for %d", n, atEnd, len(text), room.Cap-len(room.Buffer))
	}
}

// end ends a write with a call, and checks that this tells what Progress has told.
func (l *ledger) end(t *testing.T, call func() (int, api.Errno)) {
	t.Helper()
	before, atEnd := l.stream.Progress()
	busy := l.stream.State().Busy
	n, code := call()
	if !l.stream.State().Busy {
		l.accepted = append(l.accepted, l.write[:n]...)
		l.write = ""
	}
	if n != 0 && n != before || busy && atEnd && (n != before || l.stream.State().Busy) {
		t.Errorf("a write has ended with %d, %d after %d, %t", n, code, before, atEnd)
	}
}

// take reads some bytes and checks that an error comes only where that is right.
func (l *ledger) take(t *testing.T, most int) {
	t.Helper()
	before := l.stream.State()
	p, e := l.stream.Read(most)
	switch {
	case len(p) > most, e != api.OK && len(p) > 0, e == api.OK && len(p) == 0 && most > 0:
		t.Errorf("Read(%d) = %q, %d", most, p, e)
	case e == api.ErrBlock && before.Write != api.OK, e == api.ErrEOF && before.Write == api.OK, e == api.ErrClosed && before.Read == api.OK, e != api.OK && e != api.ErrClosed && len(before.Buffer) > 0:
		t.Errorf("%s: Read(%d) = %q, %d", textOf(before), most, p, e)
	}
	l.read = append(l.read, p...)
}

// check checks what follows from the promises.
func (l *ledger) check(t *testing.T) {
	t.Helper()
	n, _ := l.stream.Progress()
	all := string(l.accepted) + l.write[:n]
	x := l.stream.State()
	switch {
	case !strings.HasPrefix(all, string(l.read)):
		t.Errorf("%d bytes were read that are not the first ones of the %d that were accepted", len(l.read), len(all))
	case x.Read == api.OK && all[len(l.read):] != string(x.Buffer), len(x.Buffer) > x.Cap:
		t.Errorf("%d bytes were accepted, %d were read, and %d are in the buffer", len(all), len(l.read), len(x.Buffer))
	case x.Busy && l.write[n:] != string(x.Rest), !stream.Valid(x):
		t.Errorf("the state is %s", textOf(x))
	}
}

func TestWhatIsReadIsTheBeginningOfWhatWasAccepted(t *testing.T) {
	text := long(4000)
	for seed := range 90 {
		random := rand.New(rand.NewSource(int64(seed)))
		l := &ledger{stream: opened(t, random.Intn(1+seed/3))}
		for step := range 400 {
			switch kind := random.Intn(10); {
			case step == 300 && seed%3 == 0:
				answers(t, "CloseWrite", l.stream.CloseWrite(api.ErrEOF), api.OK)
			case step == 300 && seed%3 == 1:
				answers(t, "CloseRead", l.stream.CloseRead(api.ErrClosed), api.OK)
			case kind < 3:
				l.begin(t, text[random.Intn(251):][:random.Intn(30)])
			case kind < 5:
				l.end(t, l.stream.End)
			case kind < 6:
				l.end(t, l.stream.Cancel)
			default:
				l.take(t, random.Intn(20))
			}
			l.check(t)
			if t.Failed() {
				t.Fatalf("seed %d: step %d", seed, step)
			}
		}
	}
}

func TestAWriteForWhichThereIsRoomIsAtItsEndAtOnce(t *testing.T) {
	text := long(api.MaxBuffer)
	for _, capacity := range []int{1, 2, 3, 10, 1000, api.MaxBuffer} {
		for _, n := range []int{0, 1, capacity / 2, capacity - 1, capacity} {
			s := opened(t, capacity)
			for range 2 {
				begins(t, s, text[:n])
				stands(t, s, n, true)
				ends(t, s, n, api.OK)
				if n > 0 {
					gives(t, s, api.MaxBuffer, text[:n])
				}
			}
		}
	}
}

// peer does what a stream does by another layer, as far as it can be seen by reads.
type peer interface {
	begin(r rope.Rope)
	drop()
	read(most int) ([]byte, api.Errno)
	closeWrite(with api.Errno)
	closeRead()
}

// direct is a peer of layer 12.
type direct struct{ *meet.Meet }

func (d direct) begin(r rope.Rope)                 { d.Offer(r) }
func (d direct) drop()                             { d.Withdraw() }
func (d direct) read(most int) ([]byte, api.Errno) { return d.Take(most) }
func (d direct) closeWrite(with api.Errno)         { d.CloseWrite(with) }
func (d direct) closeRead()                        { d.CloseRead(api.ErrClosed) }

// buffered is a peer of layer 13, to which the rest of a write is written again after each read.
type buffered struct {
	*flow.Flow
	rest rope.Rope
}

func (b *buffered) again() {
	n, _ := b.Write(b.rest)
	_, b.rest, _ = b.rest.Take(n)
}

func (b *buffered) begin(r rope.Rope) {
	b.rest = r
	b.again()
}

func (b *buffered) drop() { b.rest = rope.Rope{} }

func (b *buffered) read(most int) ([]byte, api.Errno) {
	p, e := b.Read(most)
	b.again()
	return p, e
}

func (b *buffered) closeWrite(with api.Errno) { b.CloseWrite(with) }
func (b *buffered) closeRead()                { b.CloseRead(api.ErrClosed) }

// peerOf returns the peer of a new stream.
func peerOf(capacity int) peer {
	if capacity == 0 {
		return direct{meet.New()}
	}
	f, _ := flow.New(capacity)
	return &buffered{Flow: f}
}

func TestReadsGiveWhatLayers12And13Give(t *testing.T) {
	text := long(3000)
	for seed := range 200 {
		random := rand.New(rand.NewSource(int64(seed)))
		capacity := seed % 20
		s, p := opened(t, capacity), peerOf(capacity)
		for step := range 300 {
			switch kind := random.Intn(200); {
			case kind < 60:
				r := of(text[random.Intn(251):][:random.Intn(15)])
				if s.Begin(r) == api.OK {
					p.begin(r)
				}
			case kind < 90:
				s.End()
				if !s.State().Busy {
					p.drop()
				}
			case kind < 95:
				s.Cancel()
				p.drop()
			case kind < 96:
				with := codes[random.Intn(len(codes))]
				s.CloseWrite(with)
				p.closeWrite(with)
			case kind < 97 && step > 200:
				s.CloseRead(api.ErrClosed)
				p.closeRead()
			default:
				most := 1 + random.Intn(12)
				got, code := s.Read(most)
				if want, e := p.read(most); !bytes.Equal(got, want) || code != e {
					t.Fatalf("seed %d, step %d: Read(%d) = %q, %d, not %q, %d", seed, step, most, got, code, want, e)
				}
			}
		}
	}
}

// pump writes a text to a stream, at most some bytes with each write, and reads it, at most some at one time, and returns what was read until there is an error that is not ErrBlock.
func pump(s *stream.Stream, text string, in, out int) (string, api.Errno) {
	var got []byte
	for range 4 * (len(text) + 2) {
		next := text[:min(in, len(text))]
		if text != "" && s.Begin(of(next)) == api.OK {
			text = text[len(next):]
		}
		if s.End(); text == "" && !s.State().Busy {
			s.CloseWrite(api.ErrEOF)
		}
		p, e := s.Read(out)
		got = append(got, p...)
		if e != api.OK && e != api.ErrBlock {
			return string(got), e
		}
	}
	return string(got), api.OK
}

func TestTheEndComesAfterAllBytes(t *testing.T) {
	text := long(100)
	for capacity := range 8 {
		for in := 1; in <= 9; in++ {
			for out := 1; out <= 9; out++ {
				if got, e := pump(opened(t, capacity), text, in, out); got != text || e != api.ErrEOF {
					t.Errorf("the capacity %d, %d bytes in and %d out: %d bytes and the error %d", capacity, in, out, len(got), e)
				}
			}
		}
	}
	text = long(50000)
	for _, capacity := range []int{0, api.MaxBuffer - 1, api.MaxBuffer} {
		for _, out := range []int{1000, api.MaxBuffer, api.MaxData} {
			if got, e := pump(opened(t, capacity), text, api.MaxData, out); got != text || e != api.ErrEOF {
				t.Errorf("the capacity %d and %d bytes out: %d bytes and the error %d", capacity, out, len(got), e)
			}
		}
	}
}

// histories lets a stream and its model carry out all calls of a list, some times after each other.
func histories(t *testing.T, s *stream.Stream, m model, calls []call, more int) {
	t.Helper()
	both(t, s, &m, state())
	if more == 0 {
		return
	}
	for _, c := range calls {
		if t.Failed() {
			return
		}
		twin, after := s.Copy(), m
		both(t, twin, &after, c)
		histories(t, twin, after, calls, more-1)
	}
}

func TestAllShortHistoriesAgreeWithTheModel(t *testing.T) {
	whole := []call{begin(), begin("ab", "c"), begin("d"), progress(), end(), cancel(), read(-1), read(0), read(1), read(9), closeWrite(0), closeWrite(13), closeWrite(14), closeRead(1001), closeRead(12), closeRead(16)}
	few := []call{begin("ab", "c"), end(), cancel(), read(1), read(2), closeWrite(13), closeRead(12)}
	for capacity := range 4 {
		histories(t, opened(t, capacity), model{capacity: capacity}, whole, 4)
		histories(t, opened(t, capacity), model{capacity: capacity}, few, 6)
	}
}

// chance returns a call by chance.
func chance(random *rand.Rand) call {
	switch kind := random.Intn(300); {
	case kind < 90:
		text := long(251)[random.Intn(200):]
		text = text[:random.Intn(20)]
		cut := random.Intn(len(text) + 1)
		return begin(text[:cut], text[cut:])
	case kind < 180:
		return read(random.Intn(9))
	case kind < 190:
		return read(slices.Concat(below, great, []int{api.MaxData, api.MaxBuffer})[random.Intn(len(below)+len(great)+2)])
	case kind < 240:
		return end()
	case kind < 260:
		return cancel()
	case kind < 280:
		return progress()
	case kind < 282:
		return closeWrite(append(codes, wrong...)[random.Intn(len(codes)+len(wrong))])
	case kind < 284:
		return closeRead(append(codes, wrong...)[random.Intn(len(codes)+len(wrong))])
	}
	return begin(long(3000))
}

func TestWalksAgreeWithTheModel(t *testing.T) {
	for seed := range 100 {
		random := rand.New(rand.NewSource(int64(seed)))
		capacity := random.Intn([]int{1, 5, 20, 300, api.MaxBuffer + 1}[seed%5])
		s, m := opened(t, capacity), model{capacity: capacity}
		for step := range 150 {
			both(t, s, &m, chance(random), progress(), state())
			switch step % 20 {
			case 5:
				s = s.Copy()
			case 15:
				s = restored(t, s.State())
			}
			if t.Failed() {
				t.Fatalf("seed %d: step %d", seed, step)
			}
		}
	}
}

// Nil and zero objects

func TestStreamsThatAreNilOrZero(t *testing.T) {
	var none *stream.Stream
	for i, s := range []*stream.Stream{none, {}, new(stream.Stream)} {
		for range 2 {
			answers(t, "Begin", s.Begin(of("a")), api.ErrNil)
			answers(t, "Begin", s.Begin(rope.Rope{}), api.ErrNil)
			stands(t, s, 0, false)
			ends(t, s, 0, api.ErrNil)
			cancels(t, s, 0, api.ErrNil)
			for _, most := range slices.Concat([]int{0, 1, 2}, below, great) {
				withholds(t, s, most, api.ErrNil)
			}
			for _, code := range append(codes, wrong...) {
				answers(t, "CloseWrite", s.CloseWrite(code), api.ErrNil)
				answers(t, "CloseRead", s.CloseRead(code), api.ErrNil)
			}
			if x := s.State(); textOf(x) != textOf(api.StreamState{}) || x.Buffer != nil || x.Rest != nil {
				t.Errorf("%d: State() = %s", i, textOf(x))
			}
			if c := s.Copy(); c != nil {
				t.Errorf("%d: Copy() = %v", i, c)
			}
		}
	}
}
