package meet_test

import (
	"math"
	"math/rand"
	"slices"
	"strings"
	"testing"

	"aqueduct/api"
	"aqueduct/meet"
	"aqueduct/rope"
)

// below are numbers that are ErrArg.
var below = []int{-1, -2, -api.MaxData, -1 << 32, math.MinInt + 1, math.MinInt}

// great are numbers that are more than any offer has bytes.
var great = []int{api.MaxData + 1, 1 << 31, 1 << 32, math.MaxInt - 1, math.MaxInt}

// codes are errors with which an end may be closed: all that are not OK.
var codes = []api.Errno{1, 2, 8, 9, api.ErrBusy, api.ErrTimeout, api.ErrEOF, api.ErrClosed, api.ErrBlock, 130, 1000, 1001, 1 << 32, math.MaxInt, -1, -14, -1 << 32, math.MinInt}

// of returns the rope of some texts, which must be few and short enough for one.
func of(parts ...string) rope.Rope {
	var l [][]byte
	for _, p := range parts {
		l = append(l, []byte(p))
	}
	r, _ := rope.New(l...)
	return r
}

// long returns so many bytes, which repeat themselves after 251 of them.
func long(n int) string {
	p := make([]byte, n)
	for i := range p {
		p[i] = byte(i % 251)
	}
	return string(p)
}

// spoil writes into bytes and behind them.
func spoil(p []byte) {
	clear(append(p, "????????????"...))
	clear(p[:cap(p)])
}

// can checks that a call succeeds.
func can(t *testing.T, name string, code api.Errno) {
	t.Helper()
	if code != api.OK {
		t.Errorf("%s = %d", name, code)
	}
}

// refuses checks that a call returns an error.
func refuses(t *testing.T, name string, code, want api.Errno) {
	t.Helper()
	if code != want {
		t.Errorf("%s = %d, not %d", name, code, want)
	}
}

// gives checks that Take returns some bytes.
func gives(t *testing.T, s *meet.Meet, most int, want string) {
	t.Helper()
	if p, e := s.Take(most); string(p) != want || e != api.OK {
		t.Errorf("Take(%d) = %.40q, %d, not %.40q, OK", most, p, e, want)
	}
}

// withholds checks that Take returns an error.
func withholds(t *testing.T, s *meet.Meet, most int, want api.Errno) {
	t.Helper()
	if p, e := s.Take(most); len(p) != 0 || e != want {
		t.Errorf("Take(%d) = %.40q, %d, not %d", most, p, e, want)
	}
}

// ends checks what Result or Withdraw returns.
func ends(t *testing.T, name string, end func() (int, api.Errno), want int, code api.Errno) {
	t.Helper()
	if n, e := end(); n != want || e != code {
		t.Errorf("%s = %d, %d, not %d, %d", name, n, e, want, code)
	}
}

// made returns the stream that a model stands for.
func made(t *testing.T, m model) *meet.Meet {
	t.Helper()
	s := meet.New()
	if m.offers {
		can(t, "Offer", s.Offer(of(m.text)))
		gives(t, s, m.taken, m.text[:m.taken])
	}
	if m.write != api.OK {
		can(t, "CloseWrite", s.CloseWrite(m.write))
	}
	if m.read != api.OK {
		can(t, "CloseRead", s.CloseRead(m.read))
	}
	return s
}

// situations are all that a stream can be in, with offers of up to three bytes.
func situations() []model {
	var l []model
	for _, write := range []api.Errno{api.OK, api.ErrEOF} {
		for _, read := range []api.Errno{api.OK, api.ErrTimeout} {
			l = append(l, model{write: write, read: read})
			for _, text := range []string{"", "a", "ab", "abc"} {
				for taken := range len(text) + 1 {
					l = append(l, model{true, text, taken, write, read})
				}
			}
		}
	}
	return l
}

// inEachSituation tests something with a stream in each situation.
func inEachSituation(t *testing.T, test func(s *meet.Meet, m model)) {
	t.Helper()
	for _, m := range situations() {
		test(made(t, m), m)
		if t.Failed() {
			t.Fatalf("the situation %+v", m)
		}
	}
}

// The examples

func TestExamples(t *testing.T) {
	s := meet.New()
	withholds(t, s, 3, api.ErrBlock)
	gives(t, s, 0, "")
	ends(t, "Result()", s.Result, 0, api.ErrNone)
	can(t, "Offer(abcde)", s.Offer(of("abcde")))
	refuses(t, "Offer(x)", s.Offer(of("x")), api.ErrBusy)
	if n, is := s.Left(); n != 5 || !is {
		t.Errorf("Left() = %d, %t", n, is)
	}
	gives(t, s, 2, "ab")
	ends(t, "Result()", s.Result, 0, api.ErrBlock)
	gives(t, s, 9, "cde")
	withholds(t, s, 1, api.ErrBlock)
	ends(t, "Result()", s.Result, 5, api.OK)
	if n, is := s.Left(); n != 0 || is {
		t.Errorf("Left() = %d, %t", n, is)
	}
	can(t, "Offer(pq)", s.Offer(of("pq")))
	gives(t, s, 1, "p")
	can(t, "CloseWrite(ErrEOF)", s.CloseWrite(api.ErrEOF))
	withholds(t, s, 1, api.ErrEOF)
	ends(t, "Withdraw()", s.Withdraw, 1, api.OK)
	withholds(t, s, 1, api.ErrEOF)
	refuses(t, "Offer(r)", s.Offer(of("r")), api.ErrClosed)
	can(t, "CloseRead(ErrClosed)", s.CloseRead(api.ErrClosed))
	refuses(t, "Offer(s)", s.Offer(of("s")), api.ErrClosed)
	refuses(t, "CloseRead(ErrClosed)", s.CloseRead(api.ErrClosed), api.ErrState)
}

// P12.1

func TestNewStreamsAreOpenAndWithoutAnOffer(t *testing.T) {
	s, other := meet.New(), meet.New()
	if s == nil || other == nil {
		t.Fatal("New() = nil")
	}
	expect(t, s, model{})
	can(t, "Offer", s.Offer(of("abc")))
	can(t, "CloseRead", s.CloseRead(api.ErrClosed))
	expect(t, other, model{})
	expect(t, meet.New(), model{})
}

func TestOfferOfEachDivision(t *testing.T) {
	for _, parts := range [][]string{{"abcdef"}, {"a", "bcdef"}, {"abc", "def"}, {"", "ab", "", "cd", "ef", ""}, {"a", "b", "c", "d", "e", "f"}} {
		for most := 1; most <= 7; most++ {
			s := meet.New()
			can(t, "Offer", s.Offer(of(parts...)))
			expect(t, s, model{offers: true, text: "abcdef"})
			for from := 0; from < 6; from += most {
				gives(t, s, most, "abcdef"[from:min(from+most, 6)])
				expect(t, s, model{offers: true, text: "abcdef", taken: min(from+most, 6)})
			}
			ends(t, "Result()", s.Result, 6, api.OK)
			expect(t, s, model{})
		}
	}
}

func TestOfferWithoutBytes(t *testing.T) {
	for _, r := range []rope.Rope{{}, of(), of(""), of("", "")} {
		s := meet.New()
		can(t, "Offer", s.Offer(r))
		expect(t, s, model{offers: true})
		withholds(t, s, 1, api.ErrBlock)
		refuses(t, "Offer", s.Offer(r), api.ErrBusy)
		ends(t, "Result()", s.Result, 0, api.OK)
		ends(t, "Result()", s.Result, 0, api.ErrNone)
		expect(t, s, model{})
	}
}

func TestOfferOfMostBytes(t *testing.T) {
	whole := long(api.MaxData)
	units := strings.Split(whole[:rope.MaxParts], "")
	for _, parts := range [][]string{{whole}, {whole[:1], whole[1:40000], whole[40000:]}, units} {
		text := strings.Join(parts, "")
		s := meet.New()
		can(t, "Offer", s.Offer(of(parts...)))
		expect(t, s, model{offers: true, text: text})
		gives(t, s, 1000, text[:1000])
		expect(t, s, model{offers: true, text: text, taken: 1000})
		gives(t, s, math.MaxInt, text[1000:])
		ends(t, "Result()", s.Result, len(text), api.OK)
	}
}

func TestOfferOfAllBytes(t *testing.T) {
	text := long(251) + "\xfb\xfc\xfd\xfe\xff"
	s := meet.New()
	can(t, "Offer", s.Offer(of(text)))
	for i := range 256 {
		gives(t, s, 1, string([]byte{byte(i)}))
	}
	withholds(t, s, 1, api.ErrBlock)
}

func TestOfferInEachSituation(t *testing.T) {
	inEachSituation(t, func(s *meet.Meet, m model) {
		for _, r := range []rope.Rope{of("xyz"), {}} {
			twin := s.Copy()
			want := api.OK
			switch {
			case m.offers:
				want = api.ErrBusy
			case m.read != api.OK:
				want = api.ErrTimeout
			case m.write != api.OK:
				want = api.ErrClosed
			}
			refuses(t, "Offer", twin.Offer(r), want)
			after := m
			if want == api.OK {
				after.offers, after.text = true, string(r.Bytes())
			}
			expect(t, twin, after)
		}
		expect(t, s, m)
	})
}

func TestOfferReturnsTheErrorOfTheReadingEnd(t *testing.T) {
	for _, code := range codes {
		for _, write := range []api.Errno{api.OK, api.ErrEOF, code} {
			s := made(t, model{write: write, read: code})
			refuses(t, "Offer", s.Offer(of("a")), code)
			refuses(t, "Offer", s.Offer(rope.Rope{}), code)
			expect(t, s, model{write: write, read: code})
		}
		s := made(t, model{write: code})
		refuses(t, "Offer", s.Offer(of("a")), api.ErrClosed)
		expect(t, s, model{write: code})
	}
}

func TestManyOffersOneAfterTheOther(t *testing.T) {
	s := meet.New()
	for i := range 300 {
		text := long(i)
		can(t, "Offer", s.Offer(of(text)))
		if n, is := s.Left(); n != i || !is {
			t.Errorf("Left() = %d, %t, not %d, true", n, is, i)
		}
		if i%3 > 0 {
			gives(t, s, i/2, text[:i/2])
			ends(t, "Withdraw()", s.Withdraw, i/2, api.OK)
			continue
		}
		gives(t, s, 0, "")
		ends(t, "Withdraw()", s.Withdraw, 0, api.OK)
	}
	expect(t, s, model{})
}

func TestCopyGoesOnIndependently(t *testing.T) {
	inEachSituation(t, func(s *meet.Meet, m model) {
		for _, c := range []call{offer("xyz"), take(1), take(9), result(), withdraw(), closeWrite(5), closeRead(6)} {
			twin, after := s.Copy(), m
			both(t, twin, &after, c)
			expect(t, s, m)
			expect(t, twin, after)
			// What becomes of the stream does not change its copy.
			first, second := s.Copy(), s.Copy().Copy()
			after = m
			both(t, first, &after, c)
			expect(t, second, m)
		}
	})
}

func TestCopiesShareNoBytes(t *testing.T) {
	s := meet.New()
	r := of("abc", "def")
	can(t, "Offer", s.Offer(r))
	spoil(r.Bytes())
	c := s.Copy()
	for from := range 6 {
		p, _ := s.Take(1)
		spoil(p)
		d := c.Copy()
		gives(t, d, 6, "abcdef"[from:])
		p, _ = c.Take(1)
		if string(p) != "abcdef"[from:from+1] {
			t.Errorf("byte %d of the copy is %q", from, p)
		}
		spoil(p)
	}
	other := meet.New()
	can(t, "Offer", other.Offer(r))
	gives(t, other, 9, "abcdef")
	if string(r.Bytes()) != "abcdef" {
		t.Errorf("the rope has become %q", r.Bytes())
	}
}

// P12.2

func TestTakeInEachSituation(t *testing.T) {
	inEachSituation(t, func(s *meet.Meet, m model) {
		rest := m.text[m.taken:]
		for _, most := range append([]int{1, 2, 3, 4}, great...) {
			twin, after := s.Copy(), m
			switch {
			case m.read != api.OK:
				withholds(t, twin, most, api.ErrTimeout)
			case m.write != api.OK:
				withholds(t, twin, most, api.ErrEOF)
			case rest == "":
				withholds(t, twin, most, api.ErrBlock)
			default:
				n := min(most, len(rest))
				gives(t, twin, most, rest[:n])
				after.taken += n
			}
			expect(t, twin, after)
		}
		expect(t, s, m)
	})
}

func TestTakeOfNothingInEachSituation(t *testing.T) {
	inEachSituation(t, func(s *meet.Meet, m model) {
		for range 2 {
			gives(t, s, 0, "")
			expect(t, s, m)
		}
	})
}

func TestTakeOfNumbersThatAreBelowZero(t *testing.T) {
	inEachSituation(t, func(s *meet.Meet, m model) {
		for _, most := range below {
			withholds(t, s, most, api.ErrArg)
		}
		expect(t, s, m)
	})
}

func TestTakeReturnsTheErrorsOfTheEnds(t *testing.T) {
	for _, code := range codes {
		for _, m := range []model{{}, {offers: true, text: "ab"}, {offers: true, text: "ab", taken: 1}, {offers: true, text: "ab", taken: 2}} {
			m.write = code
			s := made(t, m)
			withholds(t, s, 1, code)
			expect(t, s, m)
			m.read = 77
			s = made(t, m)
			withholds(t, s, 1, 77)
			m.write, m.read = 77, code
			s = made(t, m)
			withholds(t, s, 1, code)
			m.write = api.OK
			s = made(t, m)
			withholds(t, s, 1, code)
			expect(t, s, m)
		}
	}
}

func TestWhatIsTakenIsNewMemory(t *testing.T) {
	s := meet.New()
	can(t, "Offer", s.Offer(of("abc", "defgh")))
	p, _ := s.Take(2)
	spoil(p)
	p, _ = s.Take(3)
	if string(p) != "cde" {
		t.Errorf("after ab comes %q", p)
	}
	c := s.Copy()
	gives(t, c, 9, "fgh")
	if string(p) != "cde" {
		t.Errorf("cde has become %q", p)
	}
	spoil(p)
	gives(t, s, 9, "fgh")
}

// P12.3

func TestResultInEachSituation(t *testing.T) {
	inEachSituation(t, func(s *meet.Meet, m model) {
		switch {
		case !m.offers:
			ends(t, "Result()", s.Result, 0, api.ErrNone)
		case m.taken < len(m.text) && m.write == api.OK && m.read == api.OK:
			ends(t, "Result()", s.Result, 0, api.ErrBlock)
		default:
			ends(t, "Result()", s.Result, m.taken, api.OK)
			m.offers, m.text, m.taken = false, "", 0
			ends(t, "Result()", s.Result, 0, api.ErrNone)
		}
		expect(t, s, m)
	})
}

func TestWithdrawInEachSituation(t *testing.T) {
	inEachSituation(t, func(s *meet.Meet, m model) {
		if m.offers {
			ends(t, "Withdraw()", s.Withdraw, m.taken, api.OK)
			m.offers, m.text, m.taken = false, "", 0
			expect(t, s, m)
		}
		for range 2 {
			ends(t, "Withdraw()", s.Withdraw, 0, api.ErrNone)
			expect(t, s, m)
		}
	})
}

func TestEachOfferIsCountedAnew(t *testing.T) {
	s := meet.New()
	for _, c := range []struct {
		text string
		most int
	}{{"abcde", 3}, {"fg", 2}, {"", 0}, {"h", 0}, {"ijkl", 9}, {"m", 1}} {
		n := min(c.most, len(c.text))
		can(t, "Offer", s.Offer(of(c.text)))
		gives(t, s, c.most, c.text[:n])
		expect(t, s, model{offers: true, text: c.text, taken: n})
		if n == len(c.text) {
			ends(t, "Result()", s.Result, n, api.OK)
		} else {
			ends(t, "Result()", s.Result, 0, api.ErrBlock)
			ends(t, "Withdraw()", s.Withdraw, n, api.OK)
		}
		expect(t, s, model{})
	}
}

// P12.4

func TestCloseWriteAndCloseReadInEachSituation(t *testing.T) {
	for _, c := range []struct {
		name  string
		close func(s *meet.Meet, with api.Errno) api.Errno
		end   func(m *model) *api.Errno
	}{
		{"CloseWrite", (*meet.Meet).CloseWrite, func(m *model) *api.Errno { return &m.write }},
		{"CloseRead", (*meet.Meet).CloseRead, func(m *model) *api.Errno { return &m.read }},
	} {
		inEachSituation(t, func(s *meet.Meet, m model) {
			refuses(t, c.name+"(OK)", c.close(s, api.OK), api.ErrArg)
			expect(t, s, m)
			if end := c.end(&m); *end == api.OK {
				can(t, c.name+"(14)", c.close(s, 14))
				*end = 14
				expect(t, s, m)
			}
			refuses(t, c.name+"(15)", c.close(s, 15), api.ErrState)
			refuses(t, c.name+"(14)", c.close(s, 14), api.ErrState)
			refuses(t, c.name+"(OK)", c.close(s, api.OK), api.ErrArg)
			expect(t, s, m)
		})
	}
}

func TestCloseWithEachError(t *testing.T) {
	for _, code := range codes {
		for _, other := range append(codes, api.OK) {
			m := model{true, "abc", 1, code, other}
			expect(t, made(t, m), m)
			m = model{true, "abc", 1, other, code}
			expect(t, made(t, m), m)
		}
	}
}

func TestTheEndsAreClosedInEitherOrder(t *testing.T) {
	first, second := made(t, model{offers: true, text: "ab", taken: 1}), made(t, model{offers: true, text: "ab", taken: 1})
	can(t, "CloseWrite(13)", first.CloseWrite(13))
	can(t, "CloseRead(12)", first.CloseRead(12))
	can(t, "CloseRead(12)", second.CloseRead(12))
	can(t, "CloseWrite(13)", second.CloseWrite(13))
	for _, s := range []*meet.Meet{first, second} {
		expect(t, s, model{true, "ab", 1, 13, 12})
	}
}

// P12.5

// expectConsequences checks what is true of a stream of whose offer so many bytes were not taken.
func expectConsequences(t *testing.T, s *meet.Meet, rest int, open bool) {
	t.Helper()
	if n, is := s.Left(); n != rest || !is {
		t.Errorf("Left() = %d, %t, not %d, true", n, is, rest)
	}
	if !open {
		rest = 0
	}
	for _, most := range []int{0, 1, 3, api.MaxData} {
		p, e := s.Copy().Take(most)
		if len(p) != min(most, rest) || (e == api.OK) != (len(p) > 0 || most == 0) {
			t.Errorf("Take(%d) = %q, %d, and %d bytes can be taken", most, p, e, rest)
		}
	}
}

// takeSome takes bytes of an offer some times, and returns all of them.
func takeSome(t *testing.T, s *meet.Meet, random *rand.Rand, offered int) []byte {
	t.Helper()
	var got []byte
	for random.Intn(6) > 0 {
		p, _ := s.Take(random.Intn(30))
		got = append(got, p...)
		expectConsequences(t, s, offered-len(got), true)
	}
	return got
}

func TestWhatIsTakenIsTheBeginningOfTheOffer(t *testing.T) {
	for seed := range 30 {
		random := rand.New(rand.NewSource(int64(seed)))
		s := meet.New()
		closings := []func(api.Errno) api.Errno{s.CloseWrite, s.CloseRead}
		for last := 50; last >= 0; last-- {
			text := long(random.Intn(90))
			can(t, "Offer", s.Offer(of(text[:len(text)/3], text[len(text)/3:])))
			got := takeSome(t, s, random, len(text))
			if last == 0 {
				can(t, "the closing", closings[seed%2](api.ErrClosed))
				expectConsequences(t, s, len(text)-len(got), false)
			}
			end := s.Withdraw
			if len(got) == len(text) || last == 0 {
				end = s.Result
			}
			ends(t, "the end of an offer", end, len(got), api.OK)
			if !strings.HasPrefix(text, string(got)) {
				t.Errorf("of the offer %q was taken %q", text, got)
			}
			if t.Failed() {
				t.Fatalf("seed %d: %d offers before the last one", seed, last)
			}
		}
	}
}

func TestEveryByteThatIsOfferedCanBeTaken(t *testing.T) {
	text := long(5000)
	for _, most := range []int{1, 2, 7, 999, 4999, 5000, 5001} {
		s := meet.New()
		can(t, "Offer", s.Offer(of(text[:1], text[1:2000], text[2000:])))
		var got []byte
		for n, _ := s.Left(); n > 0; n, _ = s.Left() {
			p, e := s.Take(most)
			if len(p) != min(most, n) || e != api.OK {
				t.Fatalf("Take(%d) of %d bytes: %d bytes, %d", most, n, len(p), e)
			}
			got = append(got, p...)
		}
		if string(got) != text {
			t.Errorf("Take(%d) again and again gives other bytes", most)
		}
		ends(t, "Result()", s.Result, 5000, api.OK)
	}
}

func TestNothingIsTakenOnceAnEndIsClosed(t *testing.T) {
	inEachSituation(t, func(s *meet.Meet, m model) {
		if m.write == api.OK && m.read == api.OK {
			return
		}
		for _, most := range []int{1, 3, math.MaxInt, 0, -1} {
			if p, _ := s.Take(most); len(p) > 0 {
				t.Errorf("Take(%d) = %q", most, p)
			}
		}
		if n, _ := s.Left(); n != len(m.text)-m.taken {
			t.Errorf("Left() = %d", n)
		}
		if m.offers {
			ends(t, "Result()", s.Result, m.taken, api.OK)
		}
	})
}

// histories lets a stream and its model carry out all calls of a list, some times after each other.
func histories(t *testing.T, s *meet.Meet, m model, calls []call, more int) {
	t.Helper()
	both(t, s, &m, left(), closed())
	if more == 0 {
		return
	}
	for _, c := range calls {
		if t.Failed() {
			return
		}
		twin, after := s.Copy(), m
		both(t, twin, &after, c)
		histories(t, twin, after, calls, more-1)
	}
}

func TestAllShortHistoriesAgreeWithTheModel(t *testing.T) {
	whole := []call{offer(), offer("ab", "c"), offer("d"), take(-1), take(0), take(1), take(2), take(9), result(), withdraw(), closeWrite(0), closeWrite(13), closeWrite(14), closeRead(0), closeRead(12), closeRead(16)}
	histories(t, meet.New(), model{}, whole, 4)
	few := []call{offer("ab", "c"), offer("d"), take(1), take(2), result(), withdraw(), closeWrite(13), closeRead(12)}
	histories(t, meet.New(), model{}, few, 6)
}

// chance returns a call by chance.
func chance(random *rand.Rand) call {
	switch kind := random.Intn(200); {
	case kind < 60:
		text := long(251)[random.Intn(200):]
		text = text[:random.Intn(12)]
		cut := random.Intn(len(text) + 1)
		return offer(text[:cut], text[cut:])
	case kind < 140:
		return take(random.Intn(7))
	case kind < 145:
		return take(slices.Concat(below, great)[random.Intn(len(below)+len(great))])
	case kind < 175:
		return result()
	case kind < 195:
		return withdraw()
	case kind < 197:
		return closeWrite(append(codes, api.OK)[random.Intn(len(codes)+1)])
	case kind < 199:
		return closeRead(append(codes, api.OK)[random.Intn(len(codes)+1)])
	}
	return offer(long(3000))
}

func TestWalksAgreeWithTheModel(t *testing.T) {
	for seed := range 60 {
		random := rand.New(rand.NewSource(int64(seed)))
		s, m := meet.New(), model{}
		for step := range 150 {
			both(t, s, &m, chance(random), left(), closed())
			if step%10 == 5 {
				expect(t, s, m)
				s = s.Copy()
			}
			if t.Failed() {
				t.Fatalf("seed %d: step %d", seed, step)
			}
		}
	}
}

// Nil and zero objects, and P1

func TestStreamsThatAreNilOrZero(t *testing.T) {
	var none *meet.Meet
	for i, s := range []*meet.Meet{none, {}, new(meet.Meet)} {
		for range 2 {
			refuses(t, "Offer(a)", s.Offer(of("a")), api.ErrNil)
			refuses(t, "Offer()", s.Offer(rope.Rope{}), api.ErrNil)
			for _, most := range slices.Concat([]int{0, 1, 2}, below, great) {
				withholds(t, s, most, api.ErrNil)
			}
			ends(t, "Result()", s.Result, 0, api.ErrNil)
			ends(t, "Withdraw()", s.Withdraw, 0, api.ErrNil)
			for _, code := range append(codes, api.OK) {
				refuses(t, "CloseWrite", s.CloseWrite(code), api.ErrNil)
				refuses(t, "CloseRead", s.CloseRead(code), api.ErrNil)
			}
			if n, is := s.Left(); n != 0 || is {
				t.Errorf("%d: Left() = %d, %t", i, n, is)
			}
			if w, r := s.Closed(); w != api.OK || r != api.OK {
				t.Errorf("%d: Closed() = %d, %d", i, w, r)
			}
			if c := s.Copy(); c != nil {
				t.Errorf("%d: Copy() = %v", i, c)
			}
		}
	}
}

func TestAStructThatIsCopiedIsTheSameStream(t *testing.T) {
	s := meet.New()
	twin := *s
	can(t, "Offer", s.Offer(of("abc")))
	gives(t, &twin, 2, "ab")
	gives(t, s, 1, "c")
	ends(t, "Result()", twin.Result, 3, api.OK)
	can(t, "Offer", twin.Offer(of("de")))
	can(t, "CloseWrite", s.CloseWrite(13))
	can(t, "CloseRead", twin.CloseRead(12))
	for _, s := range []*meet.Meet{s, &twin} {
		expect(t, s, model{true, "de", 0, 13, 12})
	}
}
