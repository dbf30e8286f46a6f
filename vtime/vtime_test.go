package vtime_test

import (
	"slices"
	"strings"
	"testing"

	"aqueduct/api"
	"aqueduct/vtime"
)

const (
	never = api.Never
	most  = uint64(1<<64 - 1)
)

// edges are times around both ends, around the middle, and ordinary ones, in order.
var edges = []api.Time{0, 1, 2, 5, 9, 10, 15, 20, 99, 100, 1<<32 - 1, 1 << 32, 1<<63 - 1, 1 << 63, 1<<63 + 1, never - 11, never - 10, never - 2, never - 1, never}

// P1.1

func TestAdd(t *testing.T) {
	for _, c := range []struct {
		at    api.Time
		ticks uint64
		want  api.Time
	}{
		{0, 0, 0}, {5, 7, 12}, {7, 5, 12}, {1 << 62, 1 << 62, 1 << 63},
		{never, 0, never}, {never, 1, never}, {never, most, never},
		{never - 1, 0, never - 1}, {never - 1, 1, never}, {never - 1, 2, never},
		{never - 2, 1, never - 1}, {never - 2, 2, never}, {never - 2, 3, never}, {never - 2, most, never},
		{0, most - 1, never - 1}, {0, most, never}, {1, most - 2, never - 1}, {1, most - 1, never}, {1, most, never},
		{1 << 63, 1 << 63, never}, {1 << 63, 1<<63 - 2, never - 1},
	} {
		if x := vtime.Add(c.at, c.ticks); x != c.want {
			t.Errorf("Add(%d, %d) = %d, not %d", c.at, c.ticks, x, c.want)
		}
	}
}

func TestSub(t *testing.T) {
	for _, c := range []struct {
		a, b api.Time
		want uint64
	}{
		{9, 4, 5}, {4, 9, 0}, {4, 4, 0}, {0, 0, 0}, {1, 0, 1}, {0, 1, 0}, {0, never - 1, 0},
		{never, 0, most}, {never, 4, most}, {never, never - 1, most}, {never, never, 0}, {4, never, 0}, {0, never, 0}, {never - 1, never, 0},
		{never - 1, 0, most - 1}, {never - 1, never - 2, 1}, {1 << 63, 1, 1<<63 - 1},
	} {
		if x := vtime.Sub(c.a, c.b); x != c.want {
			t.Errorf("Sub(%d, %d) = %d, not %d", c.a, c.b, x, c.want)
		}
	}
}

func TestMin(t *testing.T) {
	for _, c := range []struct {
		l    []api.Time
		want api.Time
	}{
		{nil, never}, {[]api.Time{}, never}, {[]api.Time{never}, never}, {[]api.Time{never, never}, never},
		{[]api.Time{0}, 0}, {[]api.Time{7}, 7}, {[]api.Time{never - 1, never}, never - 1},
		{[]api.Time{3, never, 2}, 2}, {[]api.Time{2, 3, never}, 2}, {[]api.Time{never, 3, 2, 9}, 2}, {[]api.Time{5, 0, 1}, 0}, {[]api.Time{1 << 63, 1}, 1},
	} {
		before := slices.Clone(c.l)
		if x := vtime.Min(c.l...); x != c.want {
			t.Errorf("Min(%d) = %d, not %d", c.l, x, c.want)
		}
		if !slices.Equal(c.l, before) {
			t.Errorf("Min has changed its argument %d to %d", before, c.l)
		}
	}
}

func TestPassed(t *testing.T) {
	for _, c := range []struct {
		deadline, now api.Time
		want          bool
	}{
		{5, 5, true}, {4, 5, true}, {6, 5, false}, {0, 0, true}, {1, 0, false}, {0, 1, true},
		{never - 1, never - 1, true}, {never - 1, never - 2, false}, {1, 1 << 63, true}, {1 << 63, 1, false},
		{never, 0, false}, {never, 5, false}, {never, never - 1, false},
		{0, never, false}, {5, never, false}, {never - 1, never, false}, {never, never, false},
	} {
		if x := vtime.Passed(c.deadline, c.now); x != c.want {
			t.Errorf("Passed(%d, %d) = %t", c.deadline, c.now, x)
		}
	}
}

// P1.2

func TestText(t *testing.T) {
	for _, c := range []struct {
		at   api.Time
		want string
	}{
		{0, "0"}, {7, "7"}, {10, "10"}, {120, "120"}, {1 << 63, "9223372036854775808"}, {never - 1, "18446744073709551614"}, {never, "never"},
	} {
		if x := vtime.Text(c.at); x != c.want {
			t.Errorf("Text(%d) = %q, not %q", uint64(c.at), x, c.want)
		}
		if x, e := vtime.Parse(c.want); x != c.at || e != api.OK {
			t.Errorf("Parse(%q) = %d, %d", c.want, x, e)
		}
	}
}

func TestParseOfOtherTexts(t *testing.T) {
	for _, s := range []string{
		"", " ", "00", "01", "007", "0never", "00000000000000000000000001",
		"-0", "-1", "+0", "+1", " 1", "1 ", "1\n", "1 2", "1_0", "1,0", "1.0", "1e3", "0x1", "0b1", "0o7", "1a", "a1", "\x00", "1\x00", "٣", "\xff",
		"Never", "NEVER", "never ", " never", "nevernever", "neve", "none",
		"18446744073709551615", "18446744073709551616", "18446744073709551617", "99999999999999999999", "100000000000000000000", "36893488147419103232",
		strings.Repeat("0", 1000), strings.Repeat("9", 100000),
	} {
		if x, e := vtime.Parse(s); x != 0 || e != api.ErrFormat {
			t.Errorf("Parse(%.40q) = %d, %d", s, x, e)
		}
	}
}

// P1.3

func made(t *testing.T, now api.Time) *vtime.Clock {
	t.Helper()
	c, e := vtime.New(now)
	if c == nil || e != api.OK || c.Now() != now {
		t.Fatalf("New(%d) returns %v, %d", now, c, e)
	}
	return c
}

func TestNew(t *testing.T) {
	for _, now := range edges[:len(edges)-1] {
		made(t, now)
	}
	if c, e := vtime.New(never); c != nil || e != api.ErrArg {
		t.Errorf("New(Never) returns %v, %d", c, e)
	}
	a, b := made(t, 3), made(t, 3)
	if a.Advance(8) != api.OK || b.Now() != 3 {
		t.Error("two clocks are not independent")
	}
}

func TestAdvance(t *testing.T) {
	for _, x := range []struct {
		from, to api.Time
		err      api.Errno
		now      api.Time
	}{
		{10, 9, api.ErrRange, 10}, {10, 0, api.ErrRange, 10}, {10, 10, api.OK, 10}, {10, 11, api.OK, 11}, {10, 15, api.OK, 15},
		{0, 0, api.OK, 0}, {0, 1, api.OK, 1}, {0, never - 1, api.OK, never - 1}, {0, never, api.ErrArg, 0}, {10, never, api.ErrArg, 10},
		{never - 1, never - 1, api.OK, never - 1}, {never - 1, never - 2, api.ErrRange, never - 1}, {never - 1, never, api.ErrArg, never - 1},
		{1 << 63, 1, api.ErrRange, 1 << 63}, {1, 1 << 63, api.OK, 1 << 63},
	} {
		c := made(t, x.from)
		if e := c.Advance(x.to); e != x.err || c.Now() != x.now {
			t.Errorf("a clock at %d: Advance(%d) = %d, then it shows %d", x.from, x.to, e, c.Now())
		}
	}
}

func TestPass(t *testing.T) {
	for _, x := range []struct {
		from  api.Time
		ticks uint64
		err   api.Errno
		now   api.Time
	}{
		{10, 0, api.OK, 10}, {10, 1, api.OK, 11}, {15, 5, api.OK, 20}, {0, 0, api.OK, 0},
		{0, most - 1, api.OK, never - 1}, {0, most, api.ErrFull, 0}, {15, most, api.ErrFull, 15}, {1, most - 1, api.ErrFull, 1}, {1, most - 2, api.OK, never - 1},
		{never - 1, 0, api.OK, never - 1}, {never - 1, 1, api.ErrFull, never - 1}, {never - 1, 2, api.ErrFull, never - 1}, {never - 3, 2, api.OK, never - 1}, {never - 3, 3, api.ErrFull, never - 3},
	} {
		c := made(t, x.from)
		if e := c.Pass(x.ticks); e != x.err || c.Now() != x.now {
			t.Errorf("a clock at %d: Pass(%d) = %d, then it shows %d", x.from, x.ticks, e, c.Now())
		}
	}
}

func TestExampleOfClock(t *testing.T) {
	c := made(t, 10)
	if e := c.Advance(9); e != api.ErrRange {
		t.Error("Advance(9)", e)
	}
	if e := c.Advance(15); e != api.OK {
		t.Error("Advance(15)", e)
	}
	if e := c.Pass(most); e != api.ErrFull {
		t.Error("Pass(2^64 - 1)", e)
	}
	if e := c.Pass(5); e != api.OK || c.Now() != 20 {
		t.Error("Pass(5)", e, c.Now())
	}
}

func TestCopy(t *testing.T) {
	for _, now := range []api.Time{0, 10, never - 1} {
		if d := made(t, now).Copy(); d == nil || d.Now() != now {
			t.Errorf("a copy of a clock at %d: %v", now, d)
		}
	}
	c := made(t, 0)
	d := c.Copy()
	if d == nil || d == c {
		t.Fatal("Copy does not return another clock")
	}
	if c.Advance(7) != api.OK || c.Now() != 7 || d.Now() != 0 {
		t.Error("the copy follows", c.Now(), d.Now())
	}
	if d.Pass(3) != api.OK || c.Now() != 7 || d.Now() != 3 {
		t.Error("the copy is followed", c.Now(), d.Now())
	}
	if e := d.Copy(); e == nil || e.Now() != 3 {
		t.Error("a copy of a copy", e)
	}
}

func TestClocksThatAreNilOrZero(t *testing.T) {
	var none *vtime.Clock
	for i, c := range []*vtime.Clock{none, {}, new(vtime.Clock)} {
		for _, to := range []api.Time{0, 1, never} {
			if e := c.Advance(to); e != api.ErrNil {
				t.Errorf("%d: Advance(%d) = %d", i, to, e)
			}
		}
		for _, ticks := range []uint64{0, 1, most} {
			if e := c.Pass(ticks); e != api.ErrNil {
				t.Errorf("%d: Pass(%d) = %d", i, ticks, e)
			}
		}
		if c.Now() != 0 || c.Copy() != nil {
			t.Errorf("%d: Now() = %d, Copy() = %v", i, c.Now(), c.Copy())
		}
	}
}

// P1.4

func TestParseInvertsText(t *testing.T) {
	for _, at := range edges {
		if x, e := vtime.Parse(vtime.Text(at)); x != at || e != api.OK {
			t.Errorf("Parse(Text(%d)) = %d, %d", at, x, e)
		}
	}
}

func TestAddInvertsSub(t *testing.T) {
	for i, b := range edges {
		for _, a := range edges[i:] {
			if x := vtime.Add(b, vtime.Sub(a, b)); x != a {
				t.Errorf("Add(%d, Sub(%d, %d)) = %d", b, a, b, x)
			}
		}
	}
}

func TestPassedStaysPassed(t *testing.T) {
	for _, deadline := range edges {
		passed := false
		for _, now := range edges[:len(edges)-1] {
			x := vtime.Passed(deadline, now)
			if passed && !x {
				t.Errorf("the deadline %d has not passed any more at %d", deadline, now)
			}
			passed = x
		}
		if passed != (deadline != never) {
			t.Errorf("the deadline %d at the last time: %t", deadline, passed)
		}
	}
}

func TestClockNeverGoesBack(t *testing.T) {
	for _, from := range edges[:len(edges)-1] {
		for _, x := range edges {
			c, d := made(t, from), made(t, from)
			c.Advance(x)
			d.Pass(uint64(x))
			if c.Now() < from || c.Now() == never {
				t.Errorf("after Advance(%d) a clock at %d shows %d", x, from, c.Now())
			}
			if d.Now() < from || d.Now() == never {
				t.Errorf("after Pass(%d) a clock at %d shows %d", x, from, d.Now())
			}
		}
	}
}
