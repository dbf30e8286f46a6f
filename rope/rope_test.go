package rope_test

import (
	"bytes"
	"iter"
	"math"
	"math/rand"
	"slices"
	"strings"
	"testing"

	"aqueduct/api"
	"aqueduct/rope"
)

// below are numbers that are ErrArg.
var below = []int{-1, -2, -api.MaxData, -1 << 32, math.MinInt + 1, math.MinInt}

// great are numbers that are more than any rope has bytes.
var great = []int{api.MaxData + 1, 1 << 31, 1 << 32, math.MaxInt - 1, math.MaxInt}

// list returns texts as lists of bytes.
func list(parts []string) [][]byte {
	var l [][]byte
	for _, p := range parts {
		l = append(l, []byte(p))
	}
	return l
}

// made returns the rope of some texts.
func made(t *testing.T, parts ...string) rope.Rope {
	t.Helper()
	r, e := rope.New(list(parts)...)
	if e != api.OK {
		t.Fatalf("New of %d parts: %d", len(parts), e)
	}
	return r
}

// texts returns what an iterator goes over.
func texts(parts iter.Seq[[]byte]) []string {
	var l []string
	for p := range parts {
		l = append(l, string(p))
	}
	return l
}

// short returns a text, or its beginning if it is long.
func short(text string) string { return text[:min(len(text), 40)] }

// expect checks that a rope has some parts, none of which is empty, and that everything it says of itself agrees with that.
func expect(t *testing.T, r rope.Rope, parts ...string) {
	t.Helper()
	whole := strings.Join(parts, "")
	if r.Len() != len(whole) {
		t.Errorf("Len() = %d, not %d", r.Len(), len(whole))
	}
	if p := string(r.Bytes()); p != whole {
		t.Errorf("Bytes() = %q.., not %q..", short(p), short(whole))
	}
	if l := texts(r.Parts()); !slices.Equal(l, parts) {
		t.Errorf("%d parts %q.., not %d parts %q..", len(l), short(strings.Join(l, "|")), len(parts), short(strings.Join(parts, "|")))
	}
}

func expectTake(t *testing.T, r rope.Rope, most int, first, rest []string) {
	t.Helper()
	a, b, e := r.Take(most)
	if e != api.OK {
		t.Errorf("Take(%d): %d", most, e)
	}
	expect(t, a, first...)
	expect(t, b, rest...)
}

// divided returns a text in parts, cut behind each place whose bit is set in a number.
func divided(text string, cuts int) []string {
	var parts []string
	start := 0
	for end := 1; end <= len(text); end++ {
		if end == len(text) || cuts>>(end-1)&1 == 1 {
			parts = append(parts, text[start:end])
			start = end
		}
	}
	return parts
}

// divisions goes over all ways to divide a text into parts.
func divisions(text string) iter.Seq[[]string] {
	return func(yield func([]string) bool) {
		for cuts := range 1 << max(0, len(text)-1) {
			if !yield(divided(text, cuts)) {
				return
			}
		}
	}
}

// taken says which parts the first bytes, at most a number of them, and the rest have, byte by byte.
func taken(parts []string, most int) (first, rest []string) {
	n := 0
	for _, p := range parts {
		var mine, other string
		for i := range len(p) {
			if n < most {
				mine += p[i : i+1]
			} else {
				other += p[i : i+1]
			}
			n++
		}
		if mine != "" {
			first = append(first, mine)
		}
		if other != "" {
			rest = append(rest, other)
		}
	}
	return first, rest
}

// units returns so many parts of one byte each, which repeat themselves after 251 of them.
func units(n int) []string {
	var parts []string
	for i := range n {
		parts = append(parts, string([]byte{byte(i % 251)}))
	}
	return parts
}

// long returns so many bytes, which repeat themselves after 251 of them.
func long(n int) string { return strings.Join(units(n), "") }

// spoil writes into bytes and behind them.
func spoil(p []byte) {
	clear(append(p, "????????????"...))
	clear(p[:cap(p)])
}

// The examples

func TestExamples(t *testing.T) {
	r := made(t, "ab", "", "cde")
	expect(t, r, "ab", "cde")
	expectTake(t, r, 3, []string{"ab", "c"}, []string{"de"})
	expectTake(t, r, 2, []string{"ab"}, []string{"cde"})
	expectTake(t, r, 0, nil, []string{"ab", "cde"})
	expectTake(t, r, 9, []string{"ab", "cde"}, nil)
	if a, b, e := r.Take(-1); a.Len() != 0 || b.Len() != 0 || e != api.ErrArg {
		t.Errorf("Take(-1) = %q, %q, %d", a.Bytes(), b.Bytes(), e)
	}
	if !r.Equal(made(t, "abcde")) || r.Equal(made(t, "abcdf")) {
		t.Error("Equal")
	}
}

// P5.1

func TestNew(t *testing.T) {
	for parts := range divisions("abcdef") {
		expect(t, made(t, parts...), parts...)
	}
	expect(t, made(t, "b", "a", "b", "b"), "b", "a", "b", "b")
}

func TestNewLeavesOutEmptyParts(t *testing.T) {
	for _, c := range []struct{ parts, want []string }{
		{nil, nil},
		{[]string{""}, nil},
		{[]string{"", "", ""}, nil},
		{[]string{"", "a"}, []string{"a"}},
		{[]string{"a", ""}, []string{"a"}},
		{[]string{"", "", "ab", "", "", "c", "", ""}, []string{"ab", "c"}},
	} {
		expect(t, made(t, c.parts...), c.want...)
	}
	for i, parts := range [][][]byte{nil, {}, {nil}, {{}}, {nil, {}, nil}, {make([]byte, 0, 9)}} {
		r, e := rope.New(parts...)
		if e != api.OK {
			t.Errorf("%d: %d", i, e)
		}
		expect(t, r)
	}
}

func TestNewOfAllBytes(t *testing.T) {
	var parts []string
	for i := range 256 {
		parts = append(parts, string([]byte{byte(i)}))
	}
	expect(t, made(t, parts...), parts...)
	expect(t, made(t, strings.Join(parts, "")), strings.Join(parts, ""))
}

func TestNewWithMostParts(t *testing.T) {
	for _, n := range []int{1023, 1024} {
		expect(t, made(t, units(n)...), units(n)...)
	}
	var sparse []string
	for _, p := range units(rope.MaxParts) {
		sparse = append(sparse, "", p, "")
	}
	expect(t, made(t, sparse...), units(rope.MaxParts)...)
	expect(t, made(t, make([]string, 5000)...))
	for _, parts := range [][]string{units(1025), append(sparse, "x"), append([]string{"xyz"}, sparse...), units(5000)} {
		if r, e := rope.New(list(parts)...); r.Len() != 0 || len(texts(r.Parts())) != 0 || e != api.ErrFull {
			t.Errorf("New of %d parts: %d bytes, %d", len(parts), r.Len(), e)
		}
	}
}

func TestNewWithMostBytes(t *testing.T) {
	whole := long(api.MaxData + 1)
	most := whole[:api.MaxData]
	for _, parts := range [][]string{{most}, {most[:1], most[1:]}, {most[:65535], most[65535:]}, {most[:70], most[70:40000], most[40000:]}} {
		expect(t, made(t, parts...), parts...)
	}
	expect(t, made(t, "", most, ""), most)
	for _, parts := range [][]string{{whole}, {whole, ""}, {whole[:1], whole[1:]}, {most, "x"}, {"x", most}, {most, most, most}} {
		if r, e := rope.New(list(parts)...); r.Len() != 0 || len(texts(r.Parts())) != 0 || e != api.ErrLong {
			t.Errorf("New of %d parts with too many bytes: %d bytes, %d", len(parts), r.Len(), e)
		}
	}
	wide := slices.Repeat([]string{long(64)}, rope.MaxParts)
	expect(t, made(t, wide...), wide...)
	wide[1023] += "x"
	if r, e := rope.New(list(wide)...); r.Len() != 0 || e != api.ErrLong {
		t.Errorf("New of MaxParts parts with MaxData + 1 bytes: %d bytes, %d", r.Len(), e)
	}
}

func TestTooManyPartsComeBeforeTooManyBytes(t *testing.T) {
	parts := slices.Repeat([]string{long(65)}, rope.MaxParts+1)
	if r, e := rope.New(list(parts)...); r.Len() != 0 || e != api.ErrFull {
		t.Errorf("New of %d parts of 65 bytes: %d bytes, %d", len(parts), r.Len(), e)
	}
	r, s := made(t, parts[:1000]...), made(t, parts[:25]...)
	if j, e := r.Join(s); j.Len() != 0 || e != api.ErrFull {
		t.Errorf("Join of 1000 and 25 parts of 65 bytes: %d bytes, %d", j.Len(), e)
	}
	if j, e := r.Join(made(t, parts[:24]...)); j.Len() != 0 || e != api.ErrLong {
		t.Errorf("Join of 1000 and 24 parts of 65 bytes: %d bytes, %d", j.Len(), e)
	}
}

func TestNewNeitherChangesNorKeepsItsParts(t *testing.T) {
	whole := []byte("abcdef")
	parts := [][]byte{whole[:2], nil, whole[2:3], {}, whole[3:6]}
	r, e := rope.New(parts...)
	if e != api.OK || string(whole) != "abcdef" {
		t.Errorf("New: %d; its bytes have become %q", e, whole)
	}
	for i, want := range []string{"ab", "", "c", "", "def"} {
		if string(parts[i]) != want {
			t.Errorf("New has changed the part %d to %q", i, parts[i])
		}
	}
	clear(whole)
	clear(parts)
	expect(t, r, "ab", "c", "def")
}

func TestBytesAreOnesOwn(t *testing.T) {
	r := made(t, "ab", "cde")
	p, q := r.Bytes(), r.Bytes()
	spoil(p)
	if string(q) != "abcde" {
		t.Error("Bytes twice has results that share memory")
	}
	spoil(q)
	expect(t, r, "ab", "cde")
}

// P5.2

func TestPartsStopEarlyAndAreUsedAgain(t *testing.T) {
	all := made(t, "ab", "c", "def").Parts()
	for stop := range 5 {
		var l []string
		for p := range all {
			if len(l) == stop {
				break
			}
			l = append(l, string(p))
		}
		if !slices.Equal(l, []string{"ab", "c", "def"}[:min(stop, 3)]) {
			t.Errorf("until %d: %q", stop, l)
		}
	}
	for range 3 {
		if l := texts(all); !slices.Equal(l, []string{"ab", "c", "def"}) {
			t.Errorf("again: %q", l)
		}
	}
}

func TestPartsWithinParts(t *testing.T) {
	all := made(t, "ab", "c").Parts()
	var l []string
	for p := range all {
		for q := range all {
			l = append(l, string(p)+string(q))
		}
	}
	if !slices.Equal(l, []string{"abab", "abc", "cab", "cc"}) {
		t.Errorf("%q", l)
	}
}

func TestPartsThatAreChangedChangeNothing(t *testing.T) {
	r := made(t, "ab", "c", "def")
	all := r.Parts()
	var kept [][]byte
	for p := range all {
		kept = append(kept, p)
		q := slices.Clone(p)
		spoil(p)
		copy(p, q)
	}
	if l := texts(slices.Values(kept)); !slices.Equal(l, []string{"ab", "c", "def"}) {
		t.Errorf("what was done to some parts has changed others: %q", l)
	}
	for p := range all {
		spoil(p)
	}
	expect(t, r, "ab", "c", "def")
	if l := texts(all); !slices.Equal(l, []string{"ab", "c", "def"}) {
		t.Errorf("what was done to the parts has changed the iterator: %q", l)
	}
}

func TestPartsAreOfTheirRope(t *testing.T) {
	r := made(t, "ab", "c")
	all, none := r.Parts(), rope.Rope{}.Parts()
	r, _, _ = r.Take(1)
	if l := texts(all); !slices.Equal(l, []string{"ab", "c"}) {
		t.Errorf("the iterator goes over %q", l)
	}
	if none == nil || len(texts(none)) != 0 {
		t.Error("the iterator of the zero value is not one over nothing")
	}
}

// P5.3

func TestTake(t *testing.T) {
	for parts := range divisions("abcdef") {
		r := made(t, parts...)
		for _, most := range append([]int{0, 1, 2, 3, 4, 5, 6, 7, 8}, great...) {
			first, rest := taken(parts, most)
			expectTake(t, r, most, first, rest)
		}
		expect(t, r, parts...)
		if t.Failed() {
			t.Fatalf("of the parts %q", parts)
		}
	}
}

func TestTakeOfNothing(t *testing.T) {
	for _, most := range append([]int{0, 1, 2}, great...) {
		expectTake(t, rope.Rope{}, most, nil, nil)
		expectTake(t, made(t, "", ""), most, nil, nil)
	}
}

func TestTakeOfAsMuchAsThereMayBe(t *testing.T) {
	most := long(api.MaxData)
	r := made(t, most)
	for _, n := range []int{1, 32768, 65535} {
		expectTake(t, r, n, []string{most[:n]}, []string{most[n:]})
	}
	expectTake(t, r, api.MaxData, []string{most}, nil)
	many := units(rope.MaxParts)
	for _, n := range []int{0, 1, 512, 1023, 1024, 1025} {
		k := min(n, rope.MaxParts)
		expectTake(t, made(t, many...), n, many[:k], many[k:])
	}
}

func TestTakeOfNumbersThatAreBelowZero(t *testing.T) {
	for _, r := range []rope.Rope{{}, made(t, "a"), made(t, "ab", "c", "def"), made(t, units(rope.MaxParts)...)} {
		for _, most := range below {
			a, b, e := r.Take(most)
			if e != api.ErrArg {
				t.Errorf("Take(%d): %d", most, e)
			}
			expect(t, a)
			expect(t, b)
		}
	}
}

// P5.4

func TestJoin(t *testing.T) {
	for parts := range divisions("abcd") {
		for others := range divisions("xyz") {
			r, s := made(t, parts...), made(t, others...)
			j, e := r.Join(s)
			if e != api.OK {
				t.Errorf("Join: %d", e)
			}
			expect(t, j, slices.Concat(parts, others)...)
			expect(t, r, parts...)
			expect(t, s, others...)
			if t.Failed() {
				t.Fatalf("of %q and %q", parts, others)
			}
		}
	}
}

func TestJoinWithNothingAndWithItself(t *testing.T) {
	r := made(t, "ab", "c")
	for _, c := range []struct {
		r, s rope.Rope
		want []string
	}{
		{rope.Rope{}, rope.Rope{}, nil},
		{r, rope.Rope{}, []string{"ab", "c"}},
		{rope.Rope{}, r, []string{"ab", "c"}},
		{r, r, []string{"ab", "c", "ab", "c"}},
	} {
		j, e := c.r.Join(c.s)
		if e != api.OK {
			t.Errorf("Join: %d", e)
		}
		expect(t, j, c.want...)
	}
	expect(t, r, "ab", "c")
}

func TestJoinUpToTheLimits(t *testing.T) {
	one, none := made(t, "x"), rope.Rope{}
	for _, c := range []struct {
		r, s rope.Rope
		want api.Errno
	}{
		{made(t, units(1024)...), none, api.OK},
		{made(t, units(1023)...), one, api.OK},
		{one, made(t, units(1023)...), api.OK},
		{made(t, units(1024)...), one, api.ErrFull},
		{one, made(t, units(1024)...), api.ErrFull},
		{made(t, units(1024)...), made(t, units(1024)...), api.ErrFull},
		{made(t, long(65536)), none, api.OK},
		{made(t, long(65535)), one, api.OK},
		{one, made(t, long(65535)), api.OK},
		{made(t, long(65536)), one, api.ErrLong},
		{one, made(t, long(65536)), api.ErrLong},
		{made(t, long(65536)), made(t, long(65536)), api.ErrLong},
		{made(t, long(65536)), made(t, units(1023)...), api.ErrLong},
		{made(t, long(65536)), made(t, units(1024)...), api.ErrFull},
	} {
		parts, others := texts(c.r.Parts()), texts(c.s.Parts())
		want := slices.Concat(parts, others)
		if c.want != api.OK {
			want = nil
		}
		j, e := c.r.Join(c.s)
		if e != c.want {
			t.Errorf("Join of %d with %d parts, %d with %d bytes: %d, not %d", len(parts), len(others), c.r.Len(), c.s.Len(), e, c.want)
		}
		expect(t, j, want...)
		expect(t, c.r, parts...)
		expect(t, c.s, others...)
	}
}

// expectEqual checks both orders.
func expectEqual(t *testing.T, r, s rope.Rope, want bool) {
	t.Helper()
	if r.Equal(s) != want || s.Equal(r) != want {
		t.Errorf("Equal of %q and %q is not %t", short(string(r.Bytes())), short(string(s.Bytes())), want)
	}
}

func TestEqualHoweverTheyAreDivided(t *testing.T) {
	for parts := range divisions("abcaa") {
		r := made(t, parts...)
		for _, others := range []string{"abcaa", "abcab", "abdaa", "bbcaa", "abca", "bcaa", "abcaaa", "aabca", "a", ""} {
			for divided := range divisions(others) {
				expectEqual(t, r, made(t, divided...), others == "abcaa")
			}
		}
	}
}

func TestEqual(t *testing.T) {
	expectEqual(t, rope.Rope{}, rope.Rope{}, true)
	expectEqual(t, rope.Rope{}, made(t, "", ""), true)
	expectEqual(t, rope.Rope{}, made(t, "\x00"), false)
	expectEqual(t, made(t, "\x00"), made(t, "\x00", "\x00"), false)
	whole := long(api.MaxData)
	r := made(t, whole)
	expectEqual(t, r, r, true)
	expectEqual(t, r, made(t, whole[:1], whole[1:300], whole[300:]), true)
	for _, i := range []int{0, 1, 32768, 65535} {
		other := []byte(whole)
		other[i]++
		expectEqual(t, r, made(t, string(other)), false)
	}
	expectEqual(t, r, made(t, whole[:65535]), false)
}

// P5.5

func TestWhatIsTakenAndTheRestJoined(t *testing.T) {
	for parts := range divisions("abcdef") {
		r := made(t, parts...)
		for most := range 9 {
			first, rest, _ := r.Take(most)
			j, e := first.Join(rest)
			n := len(texts(j.Parts()))
			if !j.Equal(r) || n != len(parts) && n != len(parts)+1 || e != api.OK {
				t.Errorf("Take(%d) of %q, joined: %q, %d", most, parts, texts(j.Parts()), e)
			}
			expect(t, j, slices.Concat(taken(parts, most))...)
		}
	}
}

func TestWhatIsTakenOfMostPartsAndTheRestJoined(t *testing.T) {
	parts := slices.Repeat([]string{"ab"}, rope.MaxParts)
	r := made(t, parts...)
	for _, most := range []int{0, 2, 1024, 2046, 2048, 2049} {
		first, rest, _ := r.Take(most)
		if j, e := first.Join(rest); !slices.Equal(texts(j.Parts()), parts) || e != api.OK {
			t.Errorf("Take(%d), joined: %d parts, %d", most, len(texts(j.Parts())), e)
		}
	}
	for _, most := range []int{1, 1023, 2047} {
		first, rest, e := r.Take(most)
		if e != api.OK || len(texts(first.Parts()))+len(texts(rest.Parts())) != rope.MaxParts+1 {
			t.Errorf("Take(%d): %d", most, e)
		}
		if j, e := first.Join(rest); j.Len() != 0 || e != api.ErrFull {
			t.Errorf("Take(%d), joined: %d bytes, %d", most, j.Len(), e)
		}
	}
	parts = parts[:rope.MaxParts-1]
	first, rest, _ := made(t, parts...).Take(1023)
	if j, e := first.Join(rest); len(texts(j.Parts())) != rope.MaxParts || j.Len() != 2046 || e != api.OK {
		t.Errorf("of MaxParts - 1 parts, joined: %d parts, %d", len(texts(j.Parts())), e)
	}
}

func TestTakeOfOneNumberAndThenOfAnotherOne(t *testing.T) {
	for parts := range divisions("abcdef") {
		r := made(t, parts...)
		for one := range 8 {
			for other := range 8 {
				first, rest, _ := r.Take(one)
				second, _, _ := rest.Take(other)
				both, _, _ := r.Take(one + other)
				if j, e := first.Join(second); !j.Equal(both) || e != api.OK {
					t.Errorf("of %q: Take(%d) and Take(%d) is %q, %d, Take(%d) %q", parts, one, other, j.Bytes(), e, one+other, both.Bytes())
				}
			}
		}
	}
}

func TestTakeUntilNothingIsLeft(t *testing.T) {
	whole := long(5000)
	r := made(t, whole[:3], whole[3:4], whole[4:2000], whole[2000:2001], whole[2001:])
	for _, most := range []int{1, 2, 7, 999, 4999, 5000} {
		var got []byte
		rest := r
		for rest.Len() > 0 {
			var first rope.Rope
			first, rest, _ = rest.Take(most)
			if first.Len() != min(most, len(whole)-len(got)) {
				t.Fatalf("Take(%d) after %d bytes: %d bytes", most, len(got), first.Len())
			}
			got = append(got, first.Bytes()...)
		}
		if string(got) != whole {
			t.Errorf("Take(%d) again and again gives other bytes", most)
		}
	}
}

// known is a rope, and the parts that it must have.
type known struct {
	rope  rope.Rope
	parts []string
}

// grow makes another rope of those that are known, and checks it.
func grow(t *testing.T, random *rand.Rand, all []known) []known {
	t.Helper()
	a, b := all[random.Intn(len(all))], all[random.Intn(len(all))]
	switch random.Intn(4) {
	case 0:
		var parts, full []string
		for range random.Intn(6) {
			p := make([]byte, random.Intn(5))
			random.Read(p)
			parts = append(parts, string(p))
			if len(p) > 0 {
				full = append(full, string(p))
			}
		}
		return append(all, known{made(t, parts...), full})
	case 1:
		if len(a.parts)+len(b.parts) > 40 {
			return all
		}
		j, e := a.rope.Join(b.rope)
		if e != api.OK {
			t.Errorf("Join: %d", e)
		}
		return append(all, known{j, slices.Concat(a.parts, b.parts)})
	default:
		most := random.Intn(a.rope.Len() + 2)
		first, rest, e := a.rope.Take(most)
		if e != api.OK {
			t.Errorf("Take(%d): %d", most, e)
		}
		x, y := taken(a.parts, most)
		return append(all, known{first, x}, known{rest, y})
	}
}

func TestRopesNeverChange(t *testing.T) {
	for seed := range 20 {
		random := rand.New(rand.NewSource(int64(seed)))
		all := []known{{}}
		for range 150 {
			all = grow(t, random, all)
		}
		for i, k := range all {
			for p := range k.rope.Parts() {
				spoil(p)
			}
			spoil(k.rope.Bytes())
			k.rope.Equal(all[len(all)-1-i].rope)
		}
		for i, k := range all {
			expect(t, k.rope, k.parts...)
			other := all[random.Intn(len(all))]
			expectEqual(t, k.rope, other.rope, bytes.Equal(k.rope.Bytes(), other.rope.Bytes()))
			if t.Failed() {
				t.Fatalf("seed %d: the rope %d of %q", seed, i, k.parts)
			}
		}
	}
}

func TestRopesThatAreCopiedAreTheSame(t *testing.T) {
	r := made(t, "ab", "c", "def")
	twin := r
	a, b, _ := twin.Take(4)
	j, _ := twin.Join(r)
	r = a
	expect(t, twin, "ab", "c", "def")
	expect(t, r, "ab", "c", "d")
	expect(t, b, "ef")
	expect(t, j, "ab", "c", "def", "ab", "c", "def")
}

// The zero value, and P1

func TestRopesThatAreZero(t *testing.T) {
	var none rope.Rope
	for _, r := range []rope.Rope{none, {}, *new(rope.Rope)} {
		expect(t, r)
		expectTake(t, r, 3, nil, nil)
		if r.Parts() == nil {
			t.Error("Parts() is nil")
		}
		j, e := r.Join(made(t, "ab"))
		if e != api.OK {
			t.Errorf("Join: %d", e)
		}
		expect(t, j, "ab")
		expectEqual(t, r, none, true)
		expectEqual(t, r, j, false)
	}
}
