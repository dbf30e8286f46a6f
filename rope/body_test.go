package rope

import (
	"slices"
	"testing"

	"aqueduct/api"
)

// What the promises do not show: that no two ropes share memory, and that a rope has one form only.

// spoil writes into all memory of a rope, and behind it.
func spoil(r Rope) {
	clear(r.data[:cap(r.data)])
	clear(r.ends[:cap(r.ends)])
}

// same reports whether two ropes have the same form.
func same(r, s Rope) bool {
	return slices.Equal(r.data, s.data) && slices.Equal(r.ends, s.ends) && (r.data == nil) == (s.data == nil) && (r.ends == nil) == (s.ends == nil)
}

// of returns the rope of some texts, which must be few and short.
func of(parts ...string) Rope {
	var l [][]byte
	for _, p := range parts {
		l = append(l, []byte(p))
	}
	r, _ := New(l...)
	return r
}

func TestRopesShareNoMemory(t *testing.T) {
	for most := range 8 {
		r := of("ab", "c", "def")
		first, rest, _ := r.Take(most)
		again, left, _ := r.Take(most)
		spoil(first)
		if !same(rest, left) || !same(r, of("ab", "c", "def")) {
			t.Errorf("Take(%d): the first bytes share memory with the rest or with the rope", most)
		}
		spoil(rest)
		if !same(r, of("ab", "c", "def")) {
			t.Errorf("Take(%d): the rest shares memory with the rope", most)
		}
		spoil(r)
		if whole, _ := again.Join(left); whole.Len() != 6 || string(whole.Bytes()) != "abcdef" {
			t.Errorf("Take(%d) twice: what was taken shares memory", most)
		}
	}
}

func TestJoinedRopesShareNoMemory(t *testing.T) {
	for _, c := range [][2]Rope{{of("ab", "c"), of("de", "f")}, {of("ab", "c"), Rope{}}, {Rope{}, of("de", "f")}} {
		r, s := c[0], c[1]
		j, _ := r.Join(s)
		k, _ := r.Join(s)
		had, _, _ := j.Take(j.Len())
		spoil(j)
		if !same(k, had) {
			t.Error("Join twice has results that share memory")
		}
		spoil(r)
		spoil(s)
		if !same(k, had) {
			t.Error("Join has a result that shares memory with one of the ropes")
		}
	}
}

func TestRopesWithoutPartsAreZero(t *testing.T) {
	r := of("ab", "c")
	none, all, _ := r.Take(0)
	whole, nothing, _ := r.Take(3)
	joined, _ := none.Join(nothing)
	both, _ := r.Join(none)
	for i, s := range []Rope{of(), of(""), of("", ""), none, nothing, joined} {
		if !same(s, Rope{}) {
			t.Errorf("%d: a rope without parts is not the zero value", i)
		}
	}
	for i, s := range []Rope{all, whole, both} {
		if !same(s, r) {
			t.Errorf("%d: a rope of the same parts has another form", i)
		}
	}
}

func TestRopesWithErrorsAreZero(t *testing.T) {
	many, _ := New(slices.Repeat([][]byte{{1}}, MaxParts)...)
	long, _ := New(make([]byte, api.MaxData))
	var got []Rope
	add := func(r Rope, code api.Errno) {
		if code == api.OK {
			t.Error("no error")
		}
		got = append(got, r)
	}
	add(New(slices.Repeat([][]byte{{1}}, MaxParts+1)...))
	add(New(make([]byte, api.MaxData+1)))
	add(many.Join(of("a")))
	add(long.Join(of("a")))
	first, rest, code := of("ab").Take(-1)
	add(first, code)
	add(rest, code)
	for i, r := range got {
		if !same(r, Rope{}) {
			t.Errorf("%d: with an error, the rope is not the zero value", i)
		}
	}
}
