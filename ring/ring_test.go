package ring_test

import (
	"bytes"
	"math"
	"math/rand"
	"strings"
	"testing"

	"aqueduct/api"
	"aqueduct/ring"
)

// below are numbers and offsets that are ErrArg.
var below = []int{-1, -2, -api.MaxBuffer, -1 << 32, math.MinInt + 1, math.MinInt}

// great are numbers that are more than any ring buffer holds.
var great = []int{api.MaxBuffer + 1, api.MaxData, 1 << 31, 1 << 32, math.MaxInt - 1, math.MaxInt}

// letters is a text without repetitions.
const letters = "abcdefghijklmnopqrstuvwxyz"

// made returns an empty ring buffer.
func made(t *testing.T, capacity int) *ring.Ring {
	t.Helper()
	r, e := ring.New(capacity)
	if r == nil || e != api.OK {
		t.Fatalf("New(%d) = %v, %d", capacity, r, e)
	}
	return r
}

// put writes a text for which there is room.
func put(t *testing.T, r *ring.Ring, text string) {
	t.Helper()
	expectWrite(t, r, text, len(text))
}

// filled returns a ring buffer with a text, which begins at the place to which so many bytes that have come and gone lead.
func filled(t *testing.T, capacity, gone int, text string) *ring.Ring {
	t.Helper()
	r := made(t, capacity)
	put(t, r, strings.Repeat("#", gone))
	expectSkip(t, r, gone, gone)
	put(t, r, text)
	return r
}

// expect checks that a ring buffer has a capacity and holds a text, and that everything it says of itself agrees with that.
func expect(t *testing.T, r *ring.Ring, capacity int, want string) {
	t.Helper()
	if r.Len() != len(want) || r.Free() != capacity-len(want) || r.Cap() != capacity {
		t.Errorf("Len() = %d, Free() = %d, Cap() = %d, not %d of %d", r.Len(), r.Free(), r.Cap(), len(want), capacity)
	}
	expectPeek(t, r, 0, api.MaxBuffer, want)
}

func expectPeek(t *testing.T, r *ring.Ring, offset, most int, want string) {
	t.Helper()
	if p, e := r.Peek(offset, most); string(p) != want || e != api.OK {
		t.Errorf("Peek(%d, %d) = %q, %d, not %q", offset, most, p, e, want)
	}
}

func expectRead(t *testing.T, r *ring.Ring, most int, want string) {
	t.Helper()
	if p, e := r.Read(most); string(p) != want || e != api.OK {
		t.Errorf("Read(%d) = %q, %d, not %q", most, p, e, want)
	}
}

func expectSkip(t *testing.T, r *ring.Ring, most, want int) {
	t.Helper()
	if n, e := r.Skip(most); n != want || e != api.OK {
		t.Errorf("Skip(%d) = %d, %d, not %d", most, n, e, want)
	}
}

func expectWrite(t *testing.T, r *ring.Ring, text string, want int) {
	t.Helper()
	if n, e := r.Write([]byte(text)); n != want || e != api.OK {
		t.Errorf("Write(%q) = %d, %d, not %d", text, n, e, want)
	}
}

// expectLeft checks that a text is left in a ring buffer, and that it can be filled up again.
func expectLeft(t *testing.T, r *ring.Ring, capacity int, text string) {
	t.Helper()
	expect(t, r, capacity, text)
	expectWrite(t, r, "1234567", capacity-len(text))
	expect(t, r, capacity, (text + "1234567")[:capacity])
}

// everywhere runs a check for small ring buffers with each number of bytes, which begin at each place. The check is given what makes another one, and the text that it holds.
func everywhere(t *testing.T, check func(another func() *ring.Ring, capacity int, text string)) {
	t.Helper()
	for capacity := 1; capacity <= 5; capacity++ {
		for gone := range capacity {
			for held := range capacity + 1 {
				text := letters[:held]
				check(func() *ring.Ring { return filled(t, capacity, gone, text) }, capacity, text)
				if t.Failed() {
					t.Fatalf("with %q of %d after %d", text, capacity, gone)
				}
			}
		}
	}
}

// The examples

func TestExamples(t *testing.T) {
	for _, capacity := range []int{0, 4097} {
		if r, e := ring.New(capacity); r != nil || e != api.ErrArg {
			t.Errorf("New(%d) = %v, %d", capacity, r, e)
		}
	}
	r := made(t, 4)
	expectWrite(t, r, "abc", 3)
	expectWrite(t, r, "defg", 1)
	if r.Len() != 4 || r.Free() != 0 {
		t.Errorf("Len() = %d, Free() = %d", r.Len(), r.Free())
	}
	expectRead(t, r, 2, "ab")
	expectWrite(t, r, "xy", 2)
	expectPeek(t, r, 1, 2, "dx")
	expectPeek(t, r, 4, 1, "")
	expectSkip(t, r, 3, 3)
	expectRead(t, r, 9, "y")
	expectRead(t, r, 9, "")
	if p, e := r.Read(-1); len(p) != 0 || e != api.ErrArg {
		t.Errorf("Read(-1) = %q, %d", p, e)
	}
	if p, e := r.Peek(-1, 0); len(p) != 0 || e != api.ErrArg {
		t.Errorf("Peek(-1, 0) = %q, %d", p, e)
	}
}

// P4.1

func TestNew(t *testing.T) {
	for _, capacity := range []int{1, 2, 3, 64, 4095, 4096} {
		expect(t, made(t, capacity), capacity, "")
	}
	for _, capacity := range append(append([]int{0}, below...), great...) {
		if r, e := ring.New(capacity); r != nil || e != api.ErrArg {
			t.Errorf("New(%d) = %v, %d", capacity, r, e)
		}
	}
	a, b := made(t, 3), made(t, 3)
	put(t, a, "ab")
	expect(t, a, 3, "ab")
	expect(t, b, 3, "")
}

func TestLenFreeCap(t *testing.T) {
	r := made(t, 3)
	for i := range 3 {
		expect(t, r, 3, "abc"[:i])
		put(t, r, "abc"[i:i+1])
	}
	for i := range 3 {
		expect(t, r, 3, "abc"[i:])
		expectSkip(t, r, 1, 1)
	}
	expect(t, r, 3, "")
}

func TestCopy(t *testing.T) {
	everywhere(t, func(another func() *ring.Ring, capacity int, text string) {
		r := another()
		c := r.Copy()
		expect(t, c, capacity, text)
		r.Skip(1)
		r.Write([]byte("12345"))
		expect(t, c, capacity, text)
		other := r.Copy()
		c.Reset()
		c.Write([]byte("678910"))
		expect(t, r, capacity, (text + "12345")[min(1, len(text)):][:capacity])
		expect(t, c, capacity, "678910"[:capacity])
		expect(t, other, capacity, (text + "12345")[min(1, len(text)):][:capacity])
	})
	c := filled(t, 4, 3, "abc").Copy().Copy()
	put(t, c, "d")
	expect(t, c, 4, "abcd")
}

// P4.2

func TestWritePutsInAsMuchAsThereIsRoomFor(t *testing.T) {
	const more = "1234567"
	everywhere(t, func(another func() *ring.Ring, capacity int, text string) {
		for n := range len(more) + 1 {
			r := another()
			want := min(n, capacity-len(text))
			expectWrite(t, r, more[:n], want)
			expect(t, r, capacity, text+more[:want])
		}
	})
}

func TestWriteInSmallPartsAsAtOnce(t *testing.T) {
	r := made(t, 5)
	for i := range 20 {
		expectWrite(t, r, letters[i:i+1], 1)
		expect(t, r, 5, letters[max(0, i-3):i+1])
		if i >= 3 {
			expectRead(t, r, 1, letters[i-3:i-2])
		}
	}
}

func TestWriteOfNothing(t *testing.T) {
	everywhere(t, func(another func() *ring.Ring, capacity int, text string) {
		r := another()
		for _, p := range [][]byte{nil, {}} {
			if n, e := r.Write(p); n != 0 || e != api.OK {
				t.Errorf("Write of nothing = %d, %d", n, e)
			}
		}
		expect(t, r, capacity, text)
	})
}

func TestWriteOfAllBytes(t *testing.T) {
	var all []byte
	for i := range 256 {
		all = append(all, byte(i))
	}
	r := filled(t, 300, 200, string(all))
	expect(t, r, 300, string(all))
	expectRead(t, r, 300, string(all))
}

func TestWriteOfAsMuchAsThereMayBe(t *testing.T) {
	long := bytes.Repeat([]byte(letters), api.MaxData/len(letters)+1)
	for _, capacity := range []int{1, 7, 4095, 4096} {
		for _, text := range []string{"", "1", "1234567"} {
			if len(text) > capacity {
				continue
			}
			r := filled(t, capacity, capacity-1, text)
			for _, p := range [][]byte{long[:api.MaxData+1], make([]byte, 2*api.MaxData)} {
				if n, e := r.Write(p); n != 0 || e != api.ErrLong {
					t.Errorf("Write of %d bytes = %d, %d", len(p), n, e)
				}
			}
			expect(t, r, capacity, text)
			if n, e := r.Write(long[:api.MaxData]); n != capacity-len(text) || e != api.OK {
				t.Errorf("Write of %d bytes = %d, %d", api.MaxData, n, e)
			}
			expect(t, r, capacity, text+string(long[:capacity-len(text)]))
		}
	}
}

func TestWriteNeitherChangesNorKeepsItsBytes(t *testing.T) {
	whole := []byte(letters)
	r := filled(t, 5, 3, "1")
	if n, e := r.Write(whole[:6]); n != 4 || e != api.OK {
		t.Error("Write", n, e)
	}
	if string(whole) != letters {
		t.Errorf("Write has changed its bytes to %q", whole)
	}
	clear(whole)
	expect(t, r, 5, "1abcd")
}

// P4.3

func TestRead(t *testing.T) {
	everywhere(t, func(another func() *ring.Ring, capacity int, text string) {
		for _, most := range append([]int{0, 1, 2, 3, 4, 5, 6}, great...) {
			r := another()
			n := min(most, len(text))
			expectRead(t, r, most, text[:n])
			expectLeft(t, r, capacity, text[n:])
		}
	})
}

func TestPeek(t *testing.T) {
	everywhere(t, func(another func() *ring.Ring, capacity int, text string) {
		r := another()
		for _, offset := range append([]int{0, 1, 2, 3, 4, 5, 6, 7}, great...) {
			for _, most := range append([]int{0, 1, 2, 3, 4, 5, 6}, great...) {
				from := min(offset, len(text))
				expectPeek(t, r, offset, most, text[from:][:min(most, len(text)-from)])
			}
		}
		expect(t, r, capacity, text)
	})
}

func TestSkip(t *testing.T) {
	everywhere(t, func(another func() *ring.Ring, capacity int, text string) {
		for _, most := range append([]int{0, 1, 2, 3, 4, 5, 6}, great...) {
			r := another()
			n := min(most, len(text))
			expectSkip(t, r, most, n)
			expectLeft(t, r, capacity, text[n:])
		}
	})
}

func TestReset(t *testing.T) {
	everywhere(t, func(another func() *ring.Ring, capacity int, text string) {
		r := another()
		for range 2 {
			if e := r.Reset(); e != api.OK {
				t.Errorf("Reset() = %d", e)
			}
			expect(t, r, capacity, "")
		}
		expectLeft(t, r, capacity, "")
	})
}

func TestNumbersThatAreBelowZero(t *testing.T) {
	everywhere(t, func(another func() *ring.Ring, capacity int, text string) {
		r := another()
		for _, n := range below {
			if p, e := r.Read(n); len(p) != 0 || e != api.ErrArg {
				t.Errorf("Read(%d) = %q, %d", n, p, e)
			}
			if k, e := r.Skip(n); k != 0 || e != api.ErrArg {
				t.Errorf("Skip(%d) = %d, %d", n, k, e)
			}
			for _, other := range []int{0, 1, math.MaxInt, n} {
				if p, e := r.Peek(n, other); len(p) != 0 || e != api.ErrArg {
					t.Errorf("Peek(%d, %d) = %q, %d", n, other, p, e)
				}
				if p, e := r.Peek(other, n); len(p) != 0 || e != api.ErrArg {
					t.Errorf("Peek(%d, %d) = %q, %d", other, n, p, e)
				}
			}
		}
		expect(t, r, capacity, text)
	})
}

// spoil writes into bytes and behind them.
func spoil(p []byte) {
	clear(append(p, "????????????"...))
	clear(p[:cap(p)])
}

func TestResultsShareNoMemory(t *testing.T) {
	everywhere(t, func(another func() *ring.Ring, capacity int, text string) {
		r := another()
		for offset := range capacity + 1 {
			for most := range capacity + 1 {
				p, _ := r.Peek(offset, most)
				q, _ := r.Peek(offset, most)
				had := string(q)
				spoil(p)
				if string(q) != had {
					t.Errorf("Peek(%d, %d) twice has results that share memory", offset, most)
				}
			}
		}
		expect(t, r, capacity, text)
		half := len(text) / 2
		p, _ := r.Read(half)
		spoil(p)
		expect(t, r, capacity, text[half:])
		p, _ = r.Read(len(text))
		expectWrite(t, r, "1234567", capacity)
		if string(p) != text[half:] {
			t.Errorf("what was read has become %q", p)
		}
		spoil(p)
		expect(t, r, capacity, "1234567"[:capacity])
	})
}

// P4.4

// account knows what a ring buffer was given, and what has become of it.
type account struct {
	random *rand.Rand
	// next is the next number that is written.
	next     int
	held     []byte
	capacity int
}

// some returns bytes that repeat themselves only after a long time, more often few than many.
func (a *account) some() []byte {
	p := make([]byte, a.number())
	for i := range p {
		p[i] = byte(a.next ^ a.next>>8)
		a.next++
	}
	return p
}

func (a *account) number() int {
	if a.random.Intn(10) == 0 {
		return a.random.Intn(2*a.capacity + 2)
	}
	return a.random.Intn(a.capacity/2 + 2)
}

// step makes one random step with a ring buffer, and checks it.
func (a *account) step(t *testing.T, r *ring.Ring) {
	t.Helper()
	most := a.number()
	out := min(most, len(a.held))
	switch a.random.Intn(20) {
	case 0, 1, 2, 3, 4, 5, 6, 7:
		p := a.some()
		in := min(len(p), a.capacity-len(a.held))
		expectWrite(t, r, string(p), in)
		a.held = append(a.held, p[:in]...)
		// What was not put in comes again.
		a.next -= len(p) - in
	case 8, 9, 10, 11, 12:
		expectRead(t, r, most, string(a.held[:out]))
		a.held = a.held[out:]
	case 13, 14:
		expectSkip(t, r, most, out)
		a.held = a.held[out:]
	case 15, 16, 17, 18:
		offset := a.random.Intn(a.capacity + 2)
		from := min(offset, len(a.held))
		expectPeek(t, r, offset, most, string(a.held[from:][:min(most, len(a.held)-from)]))
	case 19:
		if e := r.Reset(); e != api.OK {
			t.Errorf("Reset() = %d", e)
		}
		a.held = nil
	}
	if r.Len()+r.Free() != r.Cap() {
		t.Errorf("Len() = %d, Free() = %d, Cap() = %d", r.Len(), r.Free(), r.Cap())
	}
}

func TestWalksAgreeWithTheAccount(t *testing.T) {
	for seed, capacity := range []int{1, 2, 3, 4, 5, 7, 8, 16, 33, 100, 1000, 4095, 4096} {
		a := &account{random: rand.New(rand.NewSource(int64(seed))), capacity: capacity}
		r := made(t, capacity)
		for step := range 2000 {
			a.step(t, r)
			expect(t, r, capacity, string(a.held))
			if step%100 == 50 {
				r = r.Copy()
			}
			if t.Failed() {
				t.Fatalf("capacity %d: step %d", capacity, step)
			}
		}
	}
}

func TestAllThatIsReadIsAllThatWasWritten(t *testing.T) {
	random := rand.New(rand.NewSource(4))
	for _, capacity := range []int{1, 2, 3, 10, 100, 4096} {
		r := made(t, capacity)
		a := &account{random: random, capacity: capacity}
		var in, out []byte
		for range 500 {
			p := a.some()
			n, _ := r.Write(p)
			in = append(in, p[:n]...)
			p, _ = r.Read(a.number())
			out = append(out, p...)
			if len(in)-len(out) != r.Len() || !bytes.Equal(out, in[:len(out)]) {
				t.Fatalf("capacity %d: after %d of %d bytes, something else was read than was written", capacity, len(out), len(in))
			}
		}
		p, _ := r.Read(capacity)
		if out = append(out, p...); !bytes.Equal(out, in) {
			t.Errorf("capacity %d: %d bytes were written, and others or %d were read", capacity, len(in), len(out))
		}
	}
}

// Nil and zero objects, and P1

func TestRingsThatAreNilOrZero(t *testing.T) {
	var none *ring.Ring
	for i, r := range []*ring.Ring{none, {}, new(ring.Ring)} {
		for _, p := range [][]byte{nil, {}, []byte("abc"), make([]byte, api.MaxData+1)} {
			if n, e := r.Write(p); n != 0 || e != api.ErrNil {
				t.Errorf("%d: Write of %d bytes = %d, %d", i, len(p), n, e)
			}
		}
		for _, n := range append(append([]int{0, 1}, below...), great...) {
			if p, e := r.Read(n); len(p) != 0 || e != api.ErrNil {
				t.Errorf("%d: Read(%d) = %q, %d", i, n, p, e)
			}
			if k, e := r.Skip(n); k != 0 || e != api.ErrNil {
				t.Errorf("%d: Skip(%d) = %d, %d", i, n, k, e)
			}
			for _, offset := range []int{0, -1, n} {
				if p, e := r.Peek(offset, n); len(p) != 0 || e != api.ErrNil {
					t.Errorf("%d: Peek(%d, %d) = %q, %d", i, offset, n, p, e)
				}
			}
		}
		if e := r.Reset(); e != api.ErrNil {
			t.Errorf("%d: Reset() = %d", i, e)
		}
		if r.Len() != 0 || r.Free() != 0 || r.Cap() != 0 || r.Copy() != nil {
			t.Errorf("%d: Len() = %d, Free() = %d, Cap() = %d, Copy() = %v", i, r.Len(), r.Free(), r.Cap(), r.Copy())
		}
	}
}

func TestStructsThatAreCopiedDoNotPanic(t *testing.T) {
	r := filled(t, 4, 3, "abcd")
	twin := *r
	for range 5 {
		r.Skip(3)
		twin.Write([]byte("ef"))
		twin.Peek(1, 9)
		r.Read(2)
		twin.Copy().Read(9)
		r.Write([]byte("ghij"))
		twin.Reset()
	}
}
