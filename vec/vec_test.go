package vec_test

import (
	"cmp"
	"fmt"
	"math"
	"slices"
	"strings"
	"testing"

	"bedrock/api"
	"bedrock/vec"
)

// times are looked at in each place of a vector: valid ones, their edges, and others.
var times = []int{0, 1, 2, 255, 256, 1<<24 + 7, 0x010203040506, api.MaxTime - 2, api.MaxTime - 1, api.MaxTime, api.MaxTime + 1, -1, -2, math.MaxInt, math.MinInt}

// vectors are all those of at most so many of some times, the empty one first.
func vectors(most int, of ...int) []api.Vec {
	l := []api.Vec{{}}
	for at := 0; at < len(l); at++ {
		if len(l[at]) == most {
			break
		}
		for _, t := range of {
			l = append(l, append(slices.Clone(l[at]), t))
		}
	}
	return l
}

// spare is a vector with room behind it, and a look at all of that memory.
func spare(t ...int) (api.Vec, []int) {
	whole := append(slices.Clone(t), 71, 72, 73, 74)
	return whole[:len(t)], whole
}

// P301
func TestValid(t *testing.T) {
	for _, c := range []struct {
		v     api.Vec
		valid bool
	}{
		{nil, false},
		{api.Vec{}, false},
		{api.Vec{0}, true},
		{api.Vec{api.MaxTime - 1}, true},
		{api.Vec{api.MaxTime}, false},
		{api.Vec{-1}, false},
		{api.Vec{math.MaxInt}, false},
		{api.Vec{math.MinInt}, false},
		{api.Vec{1, 2, 3, 4, 5, 6, 7, 8}, true},
		{api.Vec{1, 2, 3, 4, 5, 6, 7, 8, 9}, false},
		{make(api.Vec, 9), false},
		{make(api.Vec, 256), false},
		{make(api.Vec, 257), false},
		{make(api.Vec, 1<<16), false},
	} {
		if valid := vec.Valid(c.v); valid != c.valid {
			t.Errorf("Valid(%.60v): %t", fmt.Sprint(c.v), valid)
		}
	}
}

// P301: one time that can't be is enough, wherever it stands.
func TestValidLooksAtEachTime(t *testing.T) {
	for n := 1; n <= api.MaxNodes; n++ {
		for i := range n {
			for _, x := range times {
				v := make(api.Vec, n)
				v[i] = x
				if valid := vec.Valid(v); valid != (x >= 0 && x < api.MaxTime) {
					t.Errorf("Valid(%v): %t", v, valid)
				}
			}
		}
	}
}

// P301
func TestZero(t *testing.T) {
	for _, n := range []int{0, -1, -8, 9, 10, 256, 1 << 40, math.MaxInt, math.MinInt} {
		if v := vec.Zero(n); len(v) != 0 {
			t.Errorf("Zero(%d): %v, not none", n, v)
		}
	}
	for n := 1; n <= api.MaxNodes; n++ {
		v := vec.Zero(n)
		if len(v) != n || slices.Max(v) != 0 || slices.Min(v) != 0 {
			t.Errorf("Zero(%d): %v", n, v)
		}
		v[0] = 5
		if w := vec.Zero(n); w[0] != 0 {
			t.Errorf("Zero(%d) shares its memory with the one ahead of it", n)
		}
	}
}

// P302
func TestOrder(t *testing.T) {
	for _, c := range []struct {
		a, b      api.Vec
		leq, same bool
	}{
		{nil, nil, true, true},
		{nil, api.Vec{}, true, true},
		{api.Vec{}, nil, true, true},
		{nil, api.Vec{0}, false, false},
		{api.Vec{0}, nil, false, false},
		{api.Vec{1}, api.Vec{1, 2}, false, false},
		{api.Vec{1, 2}, api.Vec{1}, false, false},
		{api.Vec{1, 0}, api.Vec{1}, false, false},
		{api.Vec{1, 2}, api.Vec{1, 3}, true, false},
		{api.Vec{1, 3}, api.Vec{1, 2}, false, false},
		{api.Vec{1, 4}, api.Vec{2, 3}, false, false},
		{api.Vec{2, 3}, api.Vec{1, 4}, false, false},
		{api.Vec{5, 6, 7}, api.Vec{5, 6, 7}, true, true},
		{api.Vec{-1}, api.Vec{0}, true, false},
		{api.Vec{math.MinInt}, api.Vec{math.MaxInt}, true, false},
		{api.Vec{math.MaxInt}, api.Vec{math.MinInt}, false, false},
		{api.Vec{math.MinInt, 0}, api.Vec{math.MinInt, 0}, true, true},
		{make(api.Vec, 9), make(api.Vec, 9), true, true},
		{make(api.Vec, 300), make(api.Vec, 301), false, false},
	} {
		if leq := vec.Leq(c.a, c.b); leq != c.leq {
			t.Errorf("Leq(%v, %v): %t", c.a, c.b, leq)
		}
		if same := vec.Same(c.a, c.b); same != c.same {
			t.Errorf("Same(%v, %v): %t", c.a, c.b, same)
		}
	}
}

// How vectors follow each other where each has to come ahead of another one or behind it.
func TestCompare(t *testing.T) {
	l := []api.Vec{nil, {math.MinInt}, {-1}, {0}, {9}, {math.MaxInt}, {math.MinInt, math.MaxInt}, {0, 0}, {0, 1}, {1, 0}, {1, math.MaxInt}, {2, math.MinInt}, {0, 0, 0}, make(api.Vec, 9), make(api.Vec, 300)}
	for i, a := range l {
		for j, b := range l {
			if got, want := vec.Compare(a, slices.Clone(b)), cmp.Compare(i, j); got != want {
				t.Errorf("Compare(%.60v, %.60v): %d, not %d", fmt.Sprint(a), fmt.Sprint(b), got, want)
			}
		}
	}
	if got := vec.Compare(nil, api.Vec{}); got != 0 {
		t.Errorf("Compare of none and an empty one: %d", got)
	}
}

// P302
func TestJoinAndMeet(t *testing.T) {
	for _, c := range []struct{ a, b, join, meet api.Vec }{
		{api.Vec{1, 5}, api.Vec{3, 2}, api.Vec{3, 5}, api.Vec{1, 2}},
		{api.Vec{1}, api.Vec{1}, api.Vec{1}, api.Vec{1}},
		{api.Vec{0, 7, 3}, api.Vec{0, 8, 2}, api.Vec{0, 8, 3}, api.Vec{0, 7, 2}},
		{api.Vec{-5}, api.Vec{0}, api.Vec{0}, api.Vec{-5}},
		{api.Vec{math.MinInt, 1}, api.Vec{math.MaxInt, -1}, api.Vec{math.MaxInt, 1}, api.Vec{math.MinInt, -1}},
		{make(api.Vec, 9), make(api.Vec, 9), make(api.Vec, 9), make(api.Vec, 9)},
		{nil, nil, nil, nil},
		{nil, api.Vec{1}, nil, nil},
		{api.Vec{1}, nil, nil, nil},
		{api.Vec{1}, api.Vec{1, 2}, nil, nil},
		{api.Vec{1, 2}, api.Vec{1}, nil, nil},
		{make(api.Vec, 9), make(api.Vec, 8), nil, nil},
	} {
		if v := vec.Join(c.a, c.b); !slices.Equal(v, c.join) {
			t.Errorf("Join(%v, %v): %v, not %v", c.a, c.b, v, c.join)
		}
		if v := vec.Meet(c.a, c.b); !slices.Equal(v, c.meet) {
			t.Errorf("Meet(%v, %v): %v, not %v", c.a, c.b, v, c.meet)
		}
	}
}

// P302: each place for itself, of all vectors of a few times.
func TestPlaceByPlace(t *testing.T) {
	l := vectors(3, -1, 0, 2)
	for _, a := range l {
		for _, b := range l {
			leq, same := len(a) == len(b), len(a) == len(b)
			var join, meet api.Vec
			for i := 0; i < len(a) && len(a) == len(b); i++ {
				leq, same = leq && a[i] <= b[i], same && a[i] == b[i]
				join, meet = append(join, max(a[i], b[i])), append(meet, min(a[i], b[i]))
			}
			if vec.Leq(a, b) != leq || vec.Same(a, b) != same {
				t.Errorf("Leq, Same(%v, %v): %t, %t", a, b, vec.Leq(a, b), vec.Same(a, b))
			}
			if j, m := vec.Join(a, b), vec.Meet(a, b); !slices.Equal(j, join) || !slices.Equal(m, meet) {
				t.Errorf("Join, Meet(%v, %v): %v, %v", a, b, j, m)
			}
		}
	}
}

// P303
func TestWith(t *testing.T) {
	for _, c := range []struct {
		v    api.Vec
		i, t int
		w    api.Vec
	}{
		{api.Vec{1, 2}, 1, 9, api.Vec{1, 9}},
		{api.Vec{1, 2}, 0, 9, api.Vec{9, 2}},
		{api.Vec{1, 2}, 0, 1, api.Vec{1, 2}},
		{api.Vec{1, 2}, 2, 9, api.Vec{1, 2}},
		{api.Vec{1, 2}, -1, 9, api.Vec{1, 2}},
		{api.Vec{1, 2}, math.MaxInt, 9, api.Vec{1, 2}},
		{api.Vec{1, 2}, math.MinInt, 9, api.Vec{1, 2}},
		{api.Vec{1, 2}, 1, -1, api.Vec{1, -1}},
		{api.Vec{1, 2}, 0, math.MinInt, api.Vec{math.MinInt, 2}},
		{api.Vec{1, 2}, 0, api.MaxTime, api.Vec{api.MaxTime, 2}},
		{api.Vec{-1, math.MaxInt}, 5, 0, api.Vec{-1, math.MaxInt}},
		{make(api.Vec, 9), 8, 1, api.Vec{0, 0, 0, 0, 0, 0, 0, 0, 1}},
		{api.Vec{}, 0, 9, nil},
		{nil, 0, 9, nil},
		{nil, -1, 9, nil},
	} {
		before := slices.Clone(c.v)
		if w := vec.With(c.v, c.i, c.t); !slices.Equal(w, c.w) || !slices.Equal(c.v, before) {
			t.Errorf("With(%v, %d, %d): %v of %v, not %v", before, c.i, c.t, w, c.v, c.w)
		}
	}
}

// What is answered is new memory, and what was handed in stays as it was, the room behind it too.
func TestAnswersAreNewMemory(t *testing.T) {
	for _, c := range []struct {
		name string
		f    func(a, b api.Vec) api.Vec
	}{
		{"Join", vec.Join},
		{"Meet", vec.Meet},
		{"Join with itself", func(a, _ api.Vec) api.Vec { return vec.Join(a, a) }},
		{"Meet with itself", func(a, _ api.Vec) api.Vec { return vec.Meet(a, a) }},
		{"With", func(a, _ api.Vec) api.Vec { return vec.With(a, 1, 9) }},
		{"With of no place", func(a, _ api.Vec) api.Vec { return vec.With(a, 2, 9) }},
		{"With of a place ahead", func(a, _ api.Vec) api.Vec { return vec.With(a[1:], -1, 9) }},
	} {
		a, wholeA := spare(1, 5)
		b, wholeB := spare(3, 5)
		beforeA, beforeB := slices.Clone(wholeA), slices.Clone(wholeB)
		v := c.f(a, b)
		w := c.f(a, b)
		for i := range v {
			v[i] = -99
		}
		_ = append(v, -98)
		if slices.Contains(w, -99) {
			t.Errorf("%s: two answers share their memory", c.name)
		}
		if !slices.Equal(wholeA, beforeA) || !slices.Equal(wholeB, beforeB) {
			t.Errorf("%s: %v and %v became %v and %v", c.name, beforeA, beforeB, wholeA, wholeB)
		}
	}
}

// P305
func TestText(t *testing.T) {
	for _, c := range []struct {
		v api.Vec
		s string
	}{
		{nil, "[]"},
		{api.Vec{}, "[]"},
		{api.Vec{0}, "[0]"},
		{api.Vec{7, 0}, "[7,0]"},
		{api.Vec{-1}, "[-1]"},
		{api.Vec{10, 200, 3000}, "[10,200,3000]"},
		{api.Vec{api.MaxTime - 1, api.MaxTime}, "[281474976710655,281474976710656]"},
		{api.Vec{math.MaxInt, math.MinInt}, "[9223372036854775807,-9223372036854775808]"},
		{make(api.Vec, 9), "[0,0,0,0,0,0,0,0,0]"},
	} {
		if s := vec.Text(c.v); s != c.s {
			t.Errorf("Text(%v): %q, not %q", c.v, s, c.s)
		}
	}
	for _, v := range vectors(2, times...) {
		if s, want := vec.Text(v), strings.ReplaceAll(fmt.Sprint(v), " ", ","); s != want {
			t.Errorf("Text(%v): %q, not %q", v, s, want)
		}
	}
}

// P306
func TestLeqIsAnOrder(t *testing.T) {
	l := vectors(2, -1, 0, 1, 3)
	for _, a := range l {
		if !vec.Leq(a, a) {
			t.Errorf("Leq(%v, %v): false", a, a)
		}
		for _, b := range l {
			if vec.Leq(a, b) && vec.Leq(b, a) != vec.Same(a, b) {
				t.Errorf("Leq of %v and %v both ways, Same: %t", a, b, vec.Same(a, b))
			}
			for _, c := range l {
				if vec.Leq(a, b) && vec.Leq(b, c) && !vec.Leq(a, c) {
					t.Errorf("Leq goes from %v to %v and on to %v, but not all the way", a, b, c)
				}
			}
		}
	}
}

// P306
func TestJoinIsTheLeastAboveAndMeetTheGreatestBelow(t *testing.T) {
	l := vectors(2, -1, 0, 1, 3)
	for _, a := range l {
		for _, b := range l {
			if len(a) != len(b) {
				continue
			}
			join, meet := vec.Join(a, b), vec.Meet(a, b)
			if !vec.Leq(a, join) || !vec.Leq(b, join) || !vec.Leq(meet, a) || !vec.Leq(meet, b) {
				t.Errorf("Join, Meet(%v, %v): %v, %v", a, b, join, meet)
			}
			for _, c := range l {
				if vec.Leq(a, c) && vec.Leq(b, c) && !vec.Leq(join, c) {
					t.Errorf("Join(%v, %v): %v, but %v is above both", a, b, join, c)
				}
				if vec.Leq(c, a) && vec.Leq(c, b) && !vec.Leq(c, meet) {
					t.Errorf("Meet(%v, %v): %v, but %v is below both", a, b, meet, c)
				}
			}
		}
	}
}
