// Package vtime: virtual time (layer 1).
package vtime

import (
	"strconv"

	"aqueduct/api"
)

// never is the text of the time Never.
const never = "never"

// Add returns a time that is later by some ticks.
func Add(t api.Time, ticks uint64) api.Time {
	// The room up to Never is compared, because the sum itself could wrap around.
	if ticks >= uint64(api.Never-t) {
		return api.Never
	}
	return t + api.Time(ticks)
}

// Sub returns how many ticks a time is later than another one, or 0.
func Sub(a, b api.Time) uint64 {
	if a <= b {
		return 0
	}
	// Never is infinitely later than every other time: the difference would say less.
	if a == api.Never {
		return uint64(api.Never)
	}
	return uint64(a - b)
}

// Min returns the earliest one of some times, or Never.
func Min(l ...api.Time) api.Time {
	first := api.Never
	for _, t := range l {
		first = min(first, t)
	}
	return first
}

// Passed reports whether a deadline has passed at a time.
func Passed(deadline, now api.Time) bool {
	// A deadline Never is later than every other time, so that only the time Never has to be ruled out.
	return now != api.Never && deadline <= now
}

// Text returns the text of a time.
func Text(t api.Time) string {
	if t == api.Never {
		return never
	}
	return strconv.FormatUint(uint64(t), 10)
}

// Parse returns the time with a text, or an error.
func Parse(s string) (api.Time, api.Errno) {
	if s == never {
		return api.Never, api.OK
	}
	n, err := strconv.ParseUint(s, 10, 64)
	// Leading zeros and the number of Never are numbers, but no texts of times.
	if err != nil || Text(api.Time(n)) != s {
		return 0, api.ErrFormat
	}
	return api.Time(n), api.OK
}

// Clock is a clock that only goes forward.
type Clock struct {
	now api.Time
	// made tells a clock that shows 0 from a zero Clock.
	made bool
}

// New returns a clock that shows a time, or an error.
func New(now api.Time) (*Clock, api.Errno) {
	if now == api.Never {
		return nil, api.ErrArg
	}
	return &Clock{now: now, made: true}, api.OK
}

// usable reports whether a clock was made by New or Copy.
func (c *Clock) usable() bool { return c != nil && c.made }

// Now returns the time that a clock shows.
func (c *Clock) Now() api.Time {
	if !c.usable() {
		return 0
	}
	return c.now
}

// Advance sets a clock to a time, or returns an error.
func (c *Clock) Advance(to api.Time) api.Errno {
	switch {
	case !c.usable():
		return api.ErrNil
	case to == api.Never:
		return api.ErrArg
	case to < c.now:
		return api.ErrRange
	}
	c.now = to
	return api.OK
}

// Pass lets some ticks pass, or returns an error.
func (c *Clock) Pass(ticks uint64) api.Errno {
	if !c.usable() {
		return api.ErrNil
	}
	to := Add(c.now, ticks)
	if to == api.Never {
		return api.ErrFull
	}
	c.now = to
	return api.OK
}

// Copy returns an independent copy.
func (c *Clock) Copy() *Clock {
	if !c.usable() {
		return nil
	}
	return &Clock{now: c.now, made: true}
}
