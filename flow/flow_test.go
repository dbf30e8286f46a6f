package flow_test

import (
	"bytes"
	"math"
	"math/rand"
	"slices"
	"strings"
	"testing"

	"aqueduct/api"
	"aqueduct/flow"
	"aqueduct/rope"
)

// below are numbers that are ErrArg.
var below = []int{-1, -2, -api.MaxData, -1 << 32, math.MinInt + 1, math.MinInt}

// great are numbers that are more than any buffer has bytes.
var great = []int{api.MaxBuffer + 1, api.MaxData, api.MaxData + 1, 1 << 31, 1 << 32, math.MaxInt - 1, math.MaxInt}

// codes are errors with which an end may be closed: all that are not OK.
var codes = []api.Errno{1, 2, 8, 9, api.ErrBusy, api.ErrTimeout, api.ErrEOF, api.ErrClosed, api.ErrBlock, 140, 1000, 1001, 1 << 32, math.MaxInt, -1, -14, -1 << 32, math.MinInt}

// of returns the rope of some texts, which must be few and short enough for one.
func of(parts ...string) rope.Rope {
	var l [][]byte
	for _, p := range parts {
		l = append(l, []byte(p))
	}
	r, _ := rope.New(l...)
	return r
}

// long returns so many bytes, which repeat themselves after 251 of them.
func long(n int) string {
	p := make([]byte, n)
	for i := range p {
		p[i] = byte(i % 251)
	}
	return string(p)
}

// spoil writes into bytes and behind them.
func spoil(p []byte) {
	clear(append(p, "????????????"...))
	clear(p[:cap(p)])
}

// opened returns an open stream with a capacity.
func opened(t *testing.T, capacity int) *flow.Flow {
	t.Helper()
	s, e := flow.New(capacity)
	if s == nil || e != api.OK {
		t.Fatalf("New(%d) = %v, %d", capacity, s, e)
	}
	return s
}

// answers checks what CloseWrite or CloseRead returns.
func answers(t *testing.T, name string, code, want api.Errno) {
	t.Helper()
	if code != want {
		t.Errorf("%s = %d, not %d", name, code, want)
	}
}

// takes checks that Write puts in so many bytes.
func takes(t *testing.T, s *flow.Flow, r rope.Rope, want int) {
	t.Helper()
	if n, e := s.Write(r); n != want || e != api.OK {
		t.Errorf("Write(%.40q) = %d, %d, not %d, OK", r.Bytes(), n, e, want)
	}
}

// refuses checks that Write returns an error.
func refuses(t *testing.T, s *flow.Flow, r rope.Rope, want api.Errno) {
	t.Helper()
	if n, e := s.Write(r); n != 0 || e != want {
		t.Errorf("Write(%.40q) = %d, %d, not 0, %d", r.Bytes(), n, e, want)
	}
}

// gives checks that Read returns some bytes.
func gives(t *testing.T, s *flow.Flow, most int, want string) {
	t.Helper()
	if p, e := s.Read(most); string(p) != want || e != api.OK {
		t.Errorf("Read(%d) = %.40q, %d, not %.40q, OK", most, p, e, want)
	}
}

// withholds checks that Read returns an error.
func withholds(t *testing.T, s *flow.Flow, most int, want api.Errno) {
	t.Helper()
	if p, e := s.Read(most); len(p) != 0 || e != want {
		t.Errorf("Read(%d) = %.40q, %d, not %d", most, p, e, want)
	}
}

// made returns the stream that a model stands for, and the model. Before that, so many bytes have gone through the stream. If the reading end is closed, the text is what that drops.
func made(t *testing.T, m model, gone int) (*flow.Flow, model) {
	t.Helper()
	s := opened(t, m.capacity)
	for range gone {
		takes(t, s, of("-"), 1)
		gives(t, s, 1, "-")
	}
	takes(t, s, of(m.buffer), len(m.buffer))
	if m.write != api.OK {
		answers(t, "CloseWrite", s.CloseWrite(m.write), api.OK)
	}
	if m.read != api.OK {
		answers(t, "CloseRead", s.CloseRead(m.read), api.OK)
		m.buffer = ""
	}
	return s, m
}

// inEachSituation tests something with a stream in each situation: with each capacity up to four, and each number of bytes after each number of bytes that went through, and with each end open or closed.
func inEachSituation(t *testing.T, test func(s *flow.Flow, m model)) {
	t.Helper()
	for capacity := 1; capacity <= 4; capacity++ {
		for gone := range capacity {
			for count := range capacity + 1 {
				for ends := range 4 {
					m := model{capacity: capacity, buffer: "abcd"[:count]}
					if ends&1 > 0 {
						m.write = api.ErrEOF
					}
					if ends&2 > 0 {
						m.read = api.ErrTimeout
					}
					s, m := made(t, m, gone)
					test(s, m)
					if t.Failed() {
						t.Fatalf("the situation %+v after %d bytes, with %d bytes written", m, gone, count)
					}
				}
			}
		}
	}
}

// The examples

func TestExamples(t *testing.T) {
	s := opened(t, 4)
	withholds(t, s, 1, api.ErrBlock)
	takes(t, s, of("abc"), 3)
	takes(t, s, of("defg"), 1)
	refuses(t, s, of("x"), api.ErrBlock)
	takes(t, s, of(), 0)
	gives(t, s, 3, "abc")
	takes(t, s, of("xy"), 2)
	answers(t, "CloseWrite(ErrEOF)", s.CloseWrite(api.ErrEOF), api.OK)
	refuses(t, s, of("z"), api.ErrClosed)
	gives(t, s, 9, "dxy")
	withholds(t, s, 1, api.ErrEOF)
	gives(t, s, 0, "")
}

func TestExampleOfClosingTheReadingEnd(t *testing.T) {
	s := opened(t, 4)
	takes(t, s, of("abc"), 3)
	answers(t, "CloseRead(ErrClosed)", s.CloseRead(api.ErrClosed), api.OK)
	if n := s.Len(); n != 0 {
		t.Errorf("Len() = %d", n)
	}
	refuses(t, s, of("d"), api.ErrClosed)
	withholds(t, s, 1, api.ErrClosed)
	answers(t, "CloseRead(ErrEOF)", s.CloseRead(api.ErrEOF), api.ErrState)
}

func TestExampleOfReadingAfterTheWritingEndWasClosed(t *testing.T) {
	s := opened(t, 8)
	takes(t, s, of("abcde"), 5)
	answers(t, "CloseWrite(ErrEOF)", s.CloseWrite(api.ErrEOF), api.OK)
	gives(t, s, 2, "ab")
	gives(t, s, 9, "cde")
	for range 5 {
		withholds(t, s, 9, api.ErrEOF)
	}
}

// P13.1

func TestNewStreamsAreOpenAndEmpty(t *testing.T) {
	for _, capacity := range []int{1, 2, 3, 5, 64, 1000, api.MaxBuffer - 1, api.MaxBuffer} {
		s, other := opened(t, capacity), opened(t, capacity)
		fresh := model{capacity: capacity}
		expect(t, s, fresh)
		takes(t, s, of("a"), 1)
		answers(t, "CloseWrite", s.CloseWrite(api.ErrEOF), api.OK)
		answers(t, "CloseRead", s.CloseRead(api.ErrClosed), api.OK)
		expect(t, other, fresh)
		expect(t, opened(t, capacity), fresh)
	}
}

func TestNewWithEachCapacity(t *testing.T) {
	text := long(api.MaxBuffer + 1)
	for capacity := 1; capacity <= api.MaxBuffer; capacity++ {
		s := opened(t, capacity)
		m := model{capacity: capacity}
		both(t, s, &m, sizes())
		takes(t, s, of(text), capacity)
		m.buffer = text[:capacity]
		both(t, s, &m, sizes())
		refuses(t, s, of("x"), api.ErrBlock)
		gives(t, s, math.MaxInt, m.buffer)
		m.buffer = ""
		both(t, s, &m, sizes())
		if t.Failed() {
			t.Fatalf("the capacity %d", capacity)
		}
	}
}

func TestNewWithCapacitiesThatAreNotValid(t *testing.T) {
	for _, capacity := range slices.Concat([]int{0}, below, great, []int{1<<32 + 1, -api.MaxBuffer, math.MinInt + 4}) {
		if s, e := flow.New(capacity); s != nil || e != api.ErrArg {
			t.Errorf("New(%d) = %v, %d", capacity, s, e)
		}
	}
}

func TestLenFreeCapAndClosedInEachSituation(t *testing.T) {
	inEachSituation(t, func(s *flow.Flow, m model) {
		for range 2 {
			if n := s.Len(); n != len(m.buffer) {
				t.Errorf("Len() = %d", n)
			}
			if n := s.Free(); n != m.capacity-len(m.buffer) {
				t.Errorf("Free() = %d", n)
			}
			if n := s.Cap(); n != m.capacity {
				t.Errorf("Cap() = %d", n)
			}
			if w, r := s.Closed(); w != m.write || r != m.read {
				t.Errorf("Closed() = %d, %d", w, r)
			}
		}
		expect(t, s, m)
	})
}

func TestCopyGoesOnIndependently(t *testing.T) {
	inEachSituation(t, func(s *flow.Flow, m model) {
		for _, c := range []call{write("x", "yz"), read(1), read(9), closeWrite(5), closeRead(6)} {
			twin, after := s.Copy(), m
			both(t, twin, &after, c)
			expect(t, s, m)
			expect(t, twin, after)
			// What becomes of a stream does not change its copy.
			first, second, after := s.Copy(), s.Copy().Copy(), m
			third := first.Copy()
			both(t, first, &after, c)
			expect(t, second, m)
			expect(t, third, m)
		}
	})
}

func TestCopiesShareNoBytes(t *testing.T) {
	s := opened(t, 6)
	takes(t, s, of("abc", "def"), 6)
	c := s.Copy()
	for range 3 {
		p, _ := s.Read(1)
		spoil(p)
	}
	takes(t, s, of("xyz"), 3)
	d := c.Copy()
	gives(t, d, 9, "abcdef")
	takes(t, d, of("123456"), 6)
	gives(t, c, 9, "abcdef")
	takes(t, c, of("uvw"), 3)
	gives(t, s, 9, "defxyz")
	gives(t, c, 9, "uvw")
	gives(t, d, 9, "123456")
}

// P13.2

// divided returns the ropes of some bytes, in different parts.
func divided(text string) []rope.Rope {
	middle := len(text) / 2
	return []rope.Rope{of(text), of(strings.Split(text, "")...), of("", text[:middle], "", "", text[middle:], ""), of(text[:min(1, len(text))], text[min(1, len(text)):])}
}

func TestWriteInEachSituation(t *testing.T) {
	inEachSituation(t, func(s *flow.Flow, m model) {
		for n := range 6 {
			for _, r := range divided("vwxyz"[:n]) {
				twin, after := s.Copy(), m
				room := m.capacity - len(m.buffer)
				switch {
				case m.read != api.OK:
					refuses(t, twin, r, api.ErrTimeout)
				case m.write != api.OK:
					refuses(t, twin, r, api.ErrClosed)
				case n > 0 && room == 0:
					refuses(t, twin, r, api.ErrBlock)
				default:
					takes(t, twin, r, min(n, room))
					after.buffer += "vwxyz"[:min(n, room)]
				}
				expect(t, twin, after)
			}
		}
		expect(t, s, m)
	})
}

func TestWriteOfNothing(t *testing.T) {
	for _, r := range []rope.Rope{{}, of(), of(""), of("", "")} {
		inEachSituation(t, func(s *flow.Flow, m model) {
			for range 2 {
				switch {
				case m.read != api.OK:
					refuses(t, s, r, api.ErrTimeout)
				case m.write != api.OK:
					refuses(t, s, r, api.ErrClosed)
				default:
					takes(t, s, r, 0)
				}
				expect(t, s, m)
			}
		})
	}
}

func TestWriteReturnsTheErrorOfTheReadingEnd(t *testing.T) {
	for _, code := range codes {
		for _, other := range []api.Errno{api.OK, api.ErrEOF, code} {
			for _, text := range []string{"", "a", "ab"} {
				s, m := made(t, model{2, text, other, code}, 1)
				for _, r := range []rope.Rope{of("x"), {}} {
					refuses(t, s, r, code)
				}
				expect(t, s, m)
			}
		}
	}
}

func TestWriteDoesNotTellTheErrorOfTheWritingEnd(t *testing.T) {
	for _, code := range codes {
		for _, text := range []string{"", "a", "ab"} {
			s, m := made(t, model{2, text, code, api.OK}, 1)
			for _, r := range []rope.Rope{of("x"), {}} {
				refuses(t, s, r, api.ErrClosed)
			}
			expect(t, s, m)
		}
	}
}

func TestWriteOfMostBytes(t *testing.T) {
	whole := long(api.MaxData)
	var parts []string
	for p := range slices.Chunk([]byte(whole), api.MaxData/rope.MaxParts) {
		parts = append(parts, string(p))
	}
	for _, r := range []rope.Rope{of(whole), of(whole[:1], whole[1:40000], whole[40000:]), of(parts...)} {
		for _, capacity := range []int{1, 7, 64, 65, 1000, api.MaxBuffer - 1, api.MaxBuffer} {
			s := opened(t, capacity)
			takes(t, s, r, capacity)
			refuses(t, s, r, api.ErrBlock)
			expect(t, s, model{capacity: capacity, buffer: whole[:capacity]})
			gives(t, s, 1, whole[:1])
			takes(t, s, r, 1)
			expect(t, s, model{capacity: capacity, buffer: whole[1:capacity] + whole[:1]})
		}
	}
}

func TestWriteOfMostParts(t *testing.T) {
	text := long(rope.MaxParts)
	r := of(strings.Split(text, "")...)
	for _, capacity := range []int{1, 500, rope.MaxParts - 1, rope.MaxParts, rope.MaxParts + 1, api.MaxBuffer} {
		n := min(capacity, rope.MaxParts)
		s := opened(t, capacity)
		takes(t, s, r, n)
		expect(t, s, model{capacity: capacity, buffer: text[:n]})
	}
}

func TestWriteOfAllBytes(t *testing.T) {
	text := long(251) + "\xfb\xfc\xfd\xfe\xff"
	for _, capacity := range []int{256, 300} {
		s := opened(t, capacity)
		takes(t, s, of(text), 256)
		for i := range 256 {
			gives(t, s, 1, string([]byte{byte(i)}))
		}
		withholds(t, s, 1, api.ErrBlock)
	}
}

func TestWriteChangesNoRope(t *testing.T) {
	r := of("abc", "", "def")
	s := opened(t, 4)
	takes(t, s, r, 4)
	p, _ := s.Read(9)
	spoil(p)
	takes(t, s, of("????"), 4)
	s.Read(9)
	takes(t, s, r, 4)
	gives(t, s, 9, "abcd")
	if string(r.Bytes()) != "abcdef" || r.Len() != 6 {
		t.Errorf("the rope has become %q", r.Bytes())
	}
	for i, part := range slices.Collect(r.Parts()) {
		if string(part) != []string{"abc", "def"}[i] {
			t.Errorf("part %d of the rope has become %q", i, part)
		}
	}
}

func TestWriteAgainWhenThereIsRoom(t *testing.T) {
	for capacity := 1; capacity <= 5; capacity++ {
		for n := 1; n <= capacity; n++ {
			s := opened(t, capacity)
			takes(t, s, of("abcdefgh"), capacity)
			for range 2 {
				refuses(t, s, of("xyz"), api.ErrBlock)
			}
			gives(t, s, n, "abcdefgh"[:n])
			takes(t, s, of("vwxyz"), n)
			refuses(t, s, of("xyz"), api.ErrBlock)
			expect(t, s, model{capacity: capacity, buffer: "abcdefgh"[n:capacity] + "vwxyz"[:n]})
		}
	}
}

// P13.3

func TestReadInEachSituation(t *testing.T) {
	inEachSituation(t, func(s *flow.Flow, m model) {
		for _, most := range append([]int{1, 2, 3, 4, 5}, great...) {
			twin, after := s.Copy(), m
			switch {
			case m.read != api.OK:
				withholds(t, twin, most, api.ErrTimeout)
			case m.buffer != "":
				n := min(most, len(m.buffer))
				gives(t, twin, most, m.buffer[:n])
				after.buffer = m.buffer[n:]
			case m.write != api.OK:
				withholds(t, twin, most, api.ErrEOF)
			default:
				withholds(t, twin, most, api.ErrBlock)
			}
			expect(t, twin, after)
		}
		expect(t, s, m)
	})
}

func TestReadOfNothingInEachSituation(t *testing.T) {
	inEachSituation(t, func(s *flow.Flow, m model) {
		for range 2 {
			gives(t, s, 0, "")
			expect(t, s, m)
		}
	})
}

func TestReadOfNumbersThatAreBelowZero(t *testing.T) {
	inEachSituation(t, func(s *flow.Flow, m model) {
		for _, most := range below {
			withholds(t, s, most, api.ErrArg)
		}
		expect(t, s, m)
	})
}

func TestReadReturnsTheErrorsOfTheEnds(t *testing.T) {
	for _, code := range codes {
		for _, text := range []string{"", "a", "ab"} {
			s, m := made(t, model{2, text, code, api.OK}, 1)
			expect(t, s, m)
			if text != "" {
				gives(t, s, 2, text)
			}
			withholds(t, s, 1, code)
			withholds(t, s, 2, code)
			for _, other := range []api.Errno{api.OK, 77, code} {
				s, m = made(t, model{2, text, other, code}, 1)
				withholds(t, s, 1, code)
				expect(t, s, m)
			}
			s, _ = made(t, model{2, text, code, 77}, 1)
			withholds(t, s, 1, 77)
		}
	}
}

func TestReadAgainWhenSomethingWasWritten(t *testing.T) {
	s := opened(t, 3)
	for i := range 50 {
		text := "abcdefgh"[i%6:][:1+i%3]
		for range 2 {
			withholds(t, s, 2, api.ErrBlock)
		}
		takes(t, s, of(text), len(text))
		gives(t, s, 3, text)
	}
}

func TestWhatIsReadIsNewMemory(t *testing.T) {
	for gone := range 8 {
		s, _ := made(t, model{capacity: 8, buffer: "abcdefgh"}, gone)
		p, _ := s.Read(2)
		spoil(p)
		p, _ = s.Read(3)
		if string(p) != "cde" {
			t.Errorf("after ab comes %q", p)
		}
		takes(t, s, of("12345"), 5)
		q, _ := s.Copy().Read(9)
		gives(t, s, 9, "fgh12345")
		takes(t, s, of("????????"), 8)
		if string(p) != "cde" || string(q) != "fgh12345" {
			t.Errorf("cde has become %q, and fgh12345 %q", p, q)
		}
		spoil(p)
		spoil(q)
		gives(t, s, 9, "????????")
	}
}

// P13.4

func TestCloseWriteAndCloseReadInEachSituation(t *testing.T) {
	for _, c := range []struct {
		name  string
		close func(s *flow.Flow, with api.Errno) api.Errno
		open  func(m model) bool
		after func(m model) model
	}{
		{"CloseWrite", (*flow.Flow).CloseWrite, func(m model) bool { return m.write == api.OK }, func(m model) model { return model{m.capacity, m.buffer, 14, m.read} }},
		{"CloseRead", (*flow.Flow).CloseRead, func(m model) bool { return m.read == api.OK }, func(m model) model { return model{m.capacity, "", m.write, 14} }},
	} {
		inEachSituation(t, func(s *flow.Flow, m model) {
			answers(t, c.name+"(OK)", c.close(s, api.OK), api.ErrArg)
			expect(t, s, m)
			if c.open(m) {
				answers(t, c.name+"(14)", c.close(s, 14), api.OK)
				m = c.after(m)
				expect(t, s, m)
			}
			answers(t, c.name+"(15)", c.close(s, 15), api.ErrState)
			answers(t, c.name+"(14)", c.close(s, 14), api.ErrState)
			answers(t, c.name+"(OK)", c.close(s, api.OK), api.ErrArg)
			expect(t, s, m)
		})
	}
}

func TestCloseWithEachError(t *testing.T) {
	for _, code := range codes {
		for _, other := range append(codes, api.OK) {
			s, m := made(t, model{3, "ab", code, other}, 2)
			expect(t, s, m)
			s, m = made(t, model{3, "ab", other, code}, 2)
			expect(t, s, m)
		}
	}
}

func TestTheEndsAreClosedInEitherOrder(t *testing.T) {
	for _, text := range []string{"", "ab", "abc"} {
		first, _ := made(t, model{capacity: 3, buffer: text}, 2)
		second := first.Copy()
		answers(t, "CloseWrite(13)", first.CloseWrite(13), api.OK)
		answers(t, "CloseRead(12)", first.CloseRead(12), api.OK)
		answers(t, "CloseRead(12)", second.CloseRead(12), api.OK)
		answers(t, "CloseWrite(13)", second.CloseWrite(13), api.OK)
		for _, s := range []*flow.Flow{first, second} {
			expect(t, s, model{3, "", 13, 12})
		}
	}
}

func TestCloseReadDropsAFullBuffer(t *testing.T) {
	for _, capacity := range []int{1, 2, 100, api.MaxBuffer} {
		for _, closed := range []api.Errno{api.OK, api.ErrEOF} {
			s, m := made(t, model{capacity, long(capacity), closed, api.ErrClosed}, capacity/2)
			if s.Len() != 0 || s.Free() != capacity || s.Cap() != capacity {
				t.Errorf("the capacity %d: Len() = %d, Free() = %d, Cap() = %d", capacity, s.Len(), s.Free(), s.Cap())
			}
			expect(t, s, m)
		}
	}
}

// P13.5

// ledger is a stream with what was written to it and read from it.
type ledger struct {
	stream        *flow.Flow
	written, read []byte
}

// write writes a rope and checks that it is refused only where that is right.
func (l *ledger) write(t *testing.T, r rope.Rope) {
	t.Helper()
	room := l.stream.Free()
	n, e := l.stream.Write(r)
	w, read := l.stream.Closed()
	open := w == api.OK && read == api.OK
	switch {
	case e == api.OK && (n != min(room, r.Len()) || !open), e == api.OK && n == 0 && r.Len() > 0:
		t.Errorf("Write of %d bytes = %d, OK with room for %d", r.Len(), n, room)
	case e != api.OK && n != 0, e == api.ErrBlock && (room > 0 || r.Len() == 0), e != api.ErrBlock && e != api.OK && open:
		t.Errorf("Write of %d bytes = %d, %d with room for %d", r.Len(), n, e, room)
	}
	l.written = append(l.written, r.Bytes()[:n]...)
	l.check(t)
}

// take reads some bytes and checks that an error comes only where that is right.
func (l *ledger) take(t *testing.T, most int) {
	t.Helper()
	count := l.stream.Len()
	p, e := l.stream.Read(most)
	w, read := l.stream.Closed()
	switch {
	case e == api.OK && (len(p) != min(most, count) || len(p) == 0 && most > 0):
		t.Errorf("Read(%d) = %q, OK with %d bytes", most, p, count)
	case e != api.OK && (len(p) > 0 || most == 0), e != api.OK && read == api.OK && (count > 0 || (e == api.ErrBlock) != (w == api.OK)):
		t.Errorf("Read(%d) = %q, %d with %d bytes", most, p, e, count)
	}
	l.read = append(l.read, p...)
	l.check(t)
}

// check checks that the bytes that were read and those in the buffer are those that were written.
func (l *ledger) check(t *testing.T) {
	t.Helper()
	s := l.stream
	if s.Len() > s.Cap() || s.Len()+s.Free() != s.Cap() {
		t.Errorf("Len() = %d, Free() = %d, Cap() = %d", s.Len(), s.Free(), s.Cap())
	}
	rest, _ := s.Copy().Read(api.MaxBuffer)
	if len(rest) != s.Len() {
		t.Errorf("Len() = %d, and there are the bytes %.40q", s.Len(), rest)
	}
	if _, e := s.Closed(); e != api.OK {
		rest = l.written[len(l.read):]
	}
	if together := slices.Concat(l.read, rest); !bytes.Equal(together, l.written) {
		t.Errorf("%d bytes were read, %d are in the buffer, and other ones were written (%d)", len(l.read), len(rest), len(l.written))
	}
}

func TestWhatIsReadIsTheBeginningOfWhatWasWritten(t *testing.T) {
	for seed := range 60 {
		random := rand.New(rand.NewSource(int64(seed)))
		l := &ledger{stream: opened(t, 1+random.Intn(1+seed))}
		text := long(4000)
		for step := range 400 {
			switch {
			case step == 300 && seed%3 == 0:
				answers(t, "CloseWrite", l.stream.CloseWrite(api.ErrEOF), api.OK)
			case step == 300 && seed%3 == 1:
				answers(t, "CloseRead", l.stream.CloseRead(api.ErrClosed), api.OK)
			case random.Intn(2) == 0:
				n := random.Intn(30)
				more := text[len(l.written)%251:][:n]
				l.write(t, of(more[:n/3], more[n/3:]))
			default:
				l.take(t, random.Intn(30))
			}
			if t.Failed() {
				t.Fatalf("seed %d: step %d", seed, step)
			}
		}
	}
}

// pump writes a text to a stream, at most some bytes at one time, and reads it, at most some at one time, and returns what was read until there is an error that is not ErrBlock.
func pump(s *flow.Flow, text string, in, out int) (string, api.Errno) {
	var got []byte
	for range 4 * (len(text) + 2) {
		n, _ := s.Write(of(text[:min(in, len(text))]))
		text = text[n:]
		if text == "" {
			s.CloseWrite(api.ErrEOF)
		}
		p, e := s.Read(out)
		got = append(got, p...)
		if e != api.OK && e != api.ErrBlock {
			return string(got), e
		}
	}
	return string(got), api.OK
}

func TestTheEndComesAfterAllBytes(t *testing.T) {
	text := long(300)
	for capacity := 1; capacity <= 9; capacity++ {
		for in := 1; in <= 10; in++ {
			for out := 1; out <= 10; out++ {
				if got, e := pump(opened(t, capacity), text, in, out); got != text || e != api.ErrEOF {
					t.Errorf("the capacity %d, %d bytes in and %d out: %d bytes and the error %d", capacity, in, out, len(got), e)
				}
			}
		}
	}
	text = long(50000)
	for _, capacity := range []int{api.MaxBuffer - 1, api.MaxBuffer} {
		for _, out := range []int{1000, api.MaxBuffer, math.MaxInt} {
			if got, e := pump(opened(t, capacity), text, api.MaxData, out); got != text || e != api.ErrEOF {
				t.Errorf("the capacity %d and %d bytes out: %d bytes and the error %d", capacity, out, len(got), e)
			}
		}
	}
}

// histories lets a stream and its model carry out all calls of a list, some times after each other.
func histories(t *testing.T, s *flow.Flow, m model, calls []call, more int) {
	t.Helper()
	both(t, s, &m, sizes())
	if more == 0 {
		return
	}
	for _, c := range calls {
		if t.Failed() {
			return
		}
		twin, after := s.Copy(), m
		both(t, twin, &after, c)
		histories(t, twin, after, calls, more-1)
	}
}

func TestAllShortHistoriesAgreeWithTheModel(t *testing.T) {
	whole := []call{write(), write("ab", "c"), write("d"), read(-1), read(0), read(1), read(2), read(9), closeWrite(0), closeWrite(13), closeWrite(14), closeRead(0), closeRead(12), closeRead(16)}
	few := []call{write("ab", "c"), write("d"), read(1), read(2), closeWrite(13), closeRead(12)}
	for capacity := 1; capacity <= 4; capacity++ {
		histories(t, opened(t, capacity), model{capacity: capacity}, whole, 4)
		histories(t, opened(t, capacity), model{capacity: capacity}, few, 6)
	}
}

// chance returns a call by chance.
func chance(random *rand.Rand) call {
	switch kind := random.Intn(200); {
	case kind < 95:
		text := long(251)[random.Intn(200):]
		text = text[:random.Intn(12)]
		cut := random.Intn(len(text) + 1)
		return write(text[:cut], text[cut:])
	case kind < 180:
		return read(random.Intn(9))
	case kind < 190:
		return read(slices.Concat(below, great)[random.Intn(len(below)+len(great))])
	case kind < 191:
		return closeWrite(append(codes, api.OK)[random.Intn(len(codes)+1)])
	case kind < 192:
		return closeRead(append(codes, api.OK)[random.Intn(len(codes)+1)])
	}
	return write(long(3000))
}

func TestWalksAgreeWithTheModel(t *testing.T) {
	for seed := range 80 {
		random := rand.New(rand.NewSource(int64(seed)))
		capacity := 1 + random.Intn([]int{4, 20, 300, api.MaxBuffer}[seed%4])
		s, m := opened(t, capacity), model{capacity: capacity}
		for step := range 150 {
			both(t, s, &m, chance(random), sizes())
			if step%10 == 5 {
				expect(t, s, m)
				s = s.Copy()
			}
			if t.Failed() {
				t.Fatalf("seed %d: step %d", seed, step)
			}
		}
	}
}

// Nil and zero objects

func TestStreamsThatAreNilOrZero(t *testing.T) {
	var none *flow.Flow
	for i, s := range []*flow.Flow{none, {}, new(flow.Flow)} {
		for range 2 {
			refuses(t, s, of("a"), api.ErrNil)
			refuses(t, s, rope.Rope{}, api.ErrNil)
			for _, most := range slices.Concat([]int{0, 1, 2}, below, great) {
				withholds(t, s, most, api.ErrNil)
			}
			for _, code := range append(codes, api.OK) {
				answers(t, "CloseWrite", s.CloseWrite(code), api.ErrNil)
				answers(t, "CloseRead", s.CloseRead(code), api.ErrNil)
			}
			if s.Len() != 0 || s.Free() != 0 || s.Cap() != 0 {
				t.Errorf("%d: Len() = %d, Free() = %d, Cap() = %d", i, s.Len(), s.Free(), s.Cap())
			}
			if w, r := s.Closed(); w != api.OK || r != api.OK {
				t.Errorf("%d: Closed() = %d, %d", i, w, r)
			}
			if c := s.Copy(); c != nil {
				t.Errorf("%d: Copy() = %v", i, c)
			}
		}
	}
}
