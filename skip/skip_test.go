package skip_test

import (
	"fmt"
	"math"
	"slices"
	"strings"
	"testing"

	"bedrock/api"
	"bedrock/skip"
)

type (
	calls = []api.Errno
	pairs = [][2]string
)

// answers holds the Errnos of calls against those that are wanted.
func answers(t *testing.T, what string, got calls, want ...api.Errno) {
	t.Helper()
	if !slices.Equal(got, want) {
		t.Errorf("%s: %d, not %d", what, got, want)
	}
}

// with makes a list of such pairs, whose heights are 1, 2, 3 and on.
func with(t *testing.T, l ...[2]string) *skip.List {
	t.Helper()
	s := skip.New()
	for i, p := range l {
		if e := s.Put(p[0], p[1], i+1); e != api.OK {
			t.Fatalf("Put(%q): %d", p[0], e)
		}
	}
	return s
}

// has holds all pairs of a list, which are rising, against those that are wanted.
func has(t *testing.T, what string, s *skip.List, want ...[2]string) {
	t.Helper()
	if got := s.From("", -1); !slices.Equal(got, want) {
		t.Errorf("%s: %q, not %q", what, got, want)
	}
	bytes := 0
	for _, p := range want {
		bytes += len(p[0]) + len(p[1])
		if v, e := s.Get(p[0]); v != p[1] || e != api.OK {
			t.Errorf("%s: Get(%q): %q, %d", what, p[0], v, e)
		}
	}
	if s.Count() != len(want) || s.Bytes() != bytes {
		t.Errorf("%s: %d pairs of %d bytes, not %d of %d", what, s.Count(), s.Bytes(), len(want), bytes)
	}
}

// lanes holds how many pairs each lane has against what is wanted.
func lanes(t *testing.T, what string, s *skip.List, want ...int) {
	t.Helper()
	if got := s.Lanes(); !slices.Equal(got, want) {
		t.Errorf("%s: lanes of %d, not %d", what, got, want)
	}
}

// P1001, P1002
func TestNew(t *testing.T) {
	s := skip.New()
	has(t, "empty", s)
	lanes(t, "empty", s)
	for _, key := range []string{"", "a", "\xff"} {
		if v, e := s.Get(key); v != "" || e != api.ErrNone {
			t.Errorf("Get(%q): %q, %d", key, v, e)
		}
		if k, v, ok := s.Last(key); k != "" || v != "" || ok {
			t.Errorf("Last(%q): %q, %q, %v", key, k, v, ok)
		}
		if n := s.Steps(key); n != 0 {
			t.Errorf("Steps(%q): %d", key, n)
		}
	}
	if s.Frozen() || skip.New() == s {
		t.Errorf("New is frozen, or not new")
	}
}

// P1001
func TestPut(t *testing.T) {
	s := skip.New()
	answers(t, "Put", calls{s.Put("b", "2", 1), s.Put("a", "1", 2), s.Put("c", "", 3), s.Put("", "0", 1), s.Put("a\x00", "x", 1), s.Put("\xff", "\x00", 1), s.Put("é", "e", 1)},
		0, 0, 0, 0, 0, 0, 0)
	want := pairs{{"", "0"}, {"a", "1"}, {"a\x00", "x"}, {"b", "2"}, {"c", ""}, {"é", "e"}, {"\xff", "\x00"}}
	has(t, "Put", s, want...)
	for _, p := range want {
		answers(t, "there", calls{s.Put(p[0], "y", 1), s.Put(p[0], p[1], 12)}, api.ErrThere, api.ErrThere)
	}
	has(t, "there", s, want...)
	lanes(t, "there", s, 7, 2, 1)
}

// P1001
func TestPutTooLong(t *testing.T) {
	most := strings.Repeat("m", 1<<16)
	s := skip.New()
	answers(t, "too long", calls{s.Put(most+"x", "", 1), s.Put("", most+"x", 1), s.Put(most+"x", most+"x", 1)}, api.ErrLong, api.ErrLong, api.ErrLong)
	has(t, "too long", s)
	answers(t, "as long as can be", calls{s.Put(most, most, 1), s.Put("a", most, 1)}, api.OK, api.OK)
	has(t, "as long as can be", s, [2]string{"a", most}, [2]string{most, most})
	answers(t, "too long ahead of there", calls{s.Put("a", most+"x", 1), s.Put(most, most, 1)}, api.ErrLong, api.ErrThere)
	// What is too long for a Put may be looked for.
	if _, e := s.Get(most + "x"); e != api.ErrNone {
		t.Errorf("Get: %d", e)
	}
	if k, v, ok := s.Last(most + "x"); k != most || v != most || !ok {
		t.Errorf("Last: %d bytes, %d bytes, %v", len(k), len(v), ok)
	}
}

// P1001, P1003: at least 1, at most 12.
func TestHeights(t *testing.T) {
	for _, c := range []struct{ height, lanes int }{
		{1, 1}, {2, 2}, {5, 5}, {11, 11}, {12, 12}, {13, 12}, {99, 12}, {math.MaxInt, 12}, {0, 1}, {-1, 1}, {-12, 1}, {math.MinInt, 1},
	} {
		s := skip.New()
		answers(t, "Put", calls{s.Put("b", "2", c.height)}, api.OK)
		lanes(t, fmt.Sprint(c.height), s, slices.Repeat([]int{1}, c.lanes)...)
		answers(t, "Put", calls{s.Put("a", "1", 3), s.Put("c", "3", 1)}, api.OK, api.OK)
		want := slices.Repeat([]int{1}, max(c.lanes, 3))
		for i := range min(c.lanes, 3) {
			want[i]++
		}
		want[0]++
		lanes(t, fmt.Sprint(c.height, "and more"), s, want...)
		has(t, fmt.Sprint(c.height), s, [2]string{"a", "1"}, [2]string{"b", "2"}, [2]string{"c", "3"})
	}
}

// P1002
func TestGet(t *testing.T) {
	s := with(t, [2]string{"b", "2"}, [2]string{"", "0"}, [2]string{"bb", ""})
	for _, c := range []struct {
		key, value string
		e          api.Errno
	}{
		{"", "0", api.OK}, {"b", "2", api.OK}, {"bb", "", api.OK},
		{"a", "", api.ErrNone}, {"b\x00", "", api.ErrNone}, {"ba", "", api.ErrNone}, {"bbb", "", api.ErrNone}, {"c", "", api.ErrNone}, {"B", "", api.ErrNone},
	} {
		if v, e := s.Get(c.key); v != c.value || e != c.e {
			t.Errorf("Get(%q): %q, %d, not %q, %d", c.key, v, e, c.value, c.e)
		}
	}
}

// P1002
func TestFrom(t *testing.T) {
	all := pairs{{"a", "1"}, {"b", "2"}, {"bb", "3"}, {"d", "4"}}
	s := with(t, all...)
	for _, c := range []struct {
		key  string
		most int
		want pairs
	}{
		{"", -1, all}, {"", math.MinInt, all}, {"", math.MaxInt, all}, {"", 4, all}, {"", 5, all},
		{"", 3, all[:3]}, {"", 1, all[:1]}, {"", 0, nil},
		{"a", -1, all}, {"a\x00", -1, all[1:]}, {"aa", 2, all[1:3]}, {"b", -1, all[1:]}, {"b\x00", -1, all[2:]}, {"bb", 1, all[2:3]},
		{"bc", -1, all[3:]}, {"d", -1, all[3:]}, {"d", 0, nil}, {"d\x00", -1, nil}, {"e", 9, nil}, {"\xff", math.MaxInt, nil},
	} {
		if got := s.From(c.key, c.most); !slices.Equal(got, c.want) {
			t.Errorf("From(%q, %d): %q, not %q", c.key, c.most, got, c.want)
		}
	}
	l := s.From("", -1)
	clear(l)
	_ = append(s.From("b", 1), [2]string{"x", "y"})
	has(t, "a changed list changes nothing", s, all...)
}

// P1002
func TestLast(t *testing.T) {
	s := with(t, [2]string{"d", "4"}, [2]string{"", "0"}, [2]string{"b", ""})
	for _, c := range []struct {
		key  string
		want [2]string
		ok   bool
	}{
		{"", [2]string{}, false},
		{"\x00", [2]string{"", "0"}, true},
		{"a", [2]string{"", "0"}, true},
		{"b", [2]string{"", "0"}, true},
		{"b\x00", [2]string{"b", ""}, true},
		{"d", [2]string{"b", ""}, true},
		{"da", [2]string{"d", "4"}, true},
		{"\xff", [2]string{"d", "4"}, true},
	} {
		if k, v, ok := s.Last(c.key); k != c.want[0] || v != c.want[1] || ok != c.ok {
			t.Errorf("Last(%q): %q, %q, %v, not %q, %v", c.key, k, v, ok, c.want, c.ok)
		}
	}
}

// P1003
func TestSteps(t *testing.T) {
	put := func(s *skip.List, keys string, heights ...int) *skip.List {
		for i, h := range heights {
			s.Put(keys[i:i+1], "", h)
		}
		return s
	}
	for _, c := range []struct {
		keys    string
		heights []int
		lanes   []int
		steps   []int // to each of "", "a", .. "f"
	}{
		{"", nil, nil, []int{0, 0, 0, 0, 0, 0, 0}},
		{"a", []int{1}, []int{1}, []int{0, 0, 1, 1, 1, 1, 1}},
		{"a", []int{12}, slices.Repeat([]int{1}, 12), []int{0, 0, 1, 1, 1, 1, 1}},
		{"abcde", []int{1, 1, 1, 1, 1}, []int{5}, []int{0, 0, 1, 2, 3, 4, 5}},
		{"abcde", []int{2, 2, 2, 2, 2}, []int{5, 5}, []int{0, 0, 1, 2, 3, 4, 5}},
		{"abcde", []int{1, 2, 1, 3, 1}, []int{5, 2, 1}, []int{0, 0, 1, 1, 2, 1, 2}},
		{"abcde", []int{1, 1, 1, 1, 9}, []int{5, 1, 1, 1, 1, 1, 1, 1, 1}, []int{0, 0, 1, 2, 3, 4, 1}},
		{"abcde", []int{9, 1, 1, 2, 1}, []int{5, 2, 1, 1, 1, 1, 1, 1, 1}, []int{0, 0, 1, 2, 3, 2, 3}},
		{"edcba", []int{1, 3, 1, 2, 1}, []int{5, 2, 1}, []int{0, 0, 1, 1, 2, 1, 2}},
		{"bd", []int{2, 4}, []int{2, 2, 1, 1}, []int{0, 0, 0, 1, 1, 1, 1}},
	} {
		s := put(skip.New(), c.keys, c.heights...)
		lanes(t, c.keys, s, c.lanes...)
		for i, want := range c.steps {
			key := []string{"", "a", "b", "c", "d", "e", "f"}[i]
			if n := s.Steps(key); n != want {
				t.Errorf("%s of %d: Steps(%q): %d, not %d", c.keys, c.heights, key, n, want)
			}
		}
	}
}

// P1003: what is answered is new memory.
func TestLanesAreNew(t *testing.T) {
	s := with(t, [2]string{"a", "1"}, [2]string{"b", "2"})
	l := s.Lanes()
	clear(l)
	_ = append(l, 9, 9)
	lanes(t, "as it was", s, 2, 1)
	answers(t, "Put", calls{s.Put("c", "3", 5)}, api.OK)
	lanes(t, "on", s, 3, 2, 1, 1, 1)
}

// P1001, P1004
func TestFreeze(t *testing.T) {
	s := with(t, [2]string{"a", "1"}, [2]string{"b", "2"})
	if s.Frozen() {
		t.Errorf("it is frozen")
	}
	long := strings.Repeat("x", 1<<16+1)
	for range 2 {
		s.Freeze()
		answers(t, "frozen", calls{s.Put("c", "3", 1), s.Put("a", "1", 1), s.Put(long, "", 1), s.Put("", long, 1)}, api.ErrOpen, api.ErrOpen, api.ErrOpen, api.ErrOpen)
		has(t, "frozen", s, [2]string{"a", "1"}, [2]string{"b", "2"})
		lanes(t, "frozen", s, 2, 1)
		if k, _, ok := s.Last("b"); !s.Frozen() || k != "a" || !ok || s.Steps("c") != 1 {
			t.Errorf("frozen: %v, %q, %v, %d", s.Frozen(), k, ok, s.Steps("c"))
		}
	}
}

// P1004
func TestZero(t *testing.T) {
	var s skip.List
	has(t, "zero", &s)
	lanes(t, "zero", &s)
	if _, _, ok := s.Last("a"); ok || s.Steps("a") != 0 || s.Frozen() {
		t.Errorf("a zero one is not New's")
	}
	answers(t, "zero", calls{s.Put("b", "2", 2), s.Put("a", "1", 1), s.Put("a", "1", 1)}, api.OK, api.OK, api.ErrThere)
	has(t, "zero", &s, [2]string{"a", "1"}, [2]string{"b", "2"})
	var f skip.List
	f.Freeze()
	answers(t, "a frozen zero one", calls{f.Put("a", "1", 1)}, api.ErrOpen)
	if !f.Frozen() || f.Count() != 0 {
		t.Errorf("a zero one is not frozen")
	}
}

// P1004
func TestNil(t *testing.T) {
	var s *skip.List
	long := strings.Repeat("x", 1<<16+1)
	for range 2 {
		answers(t, "nil", calls{s.Put("a", "1", 1), s.Put(long, long, 0)}, api.ErrArg, api.ErrArg)
		if v, e := s.Get(""); v != "" || e != api.ErrNone {
			t.Errorf("Get: %q, %d", v, e)
		}
		if k, v, ok := s.Last("a"); k != "" || v != "" || ok {
			t.Errorf("Last: %q, %q, %v", k, v, ok)
		}
		if len(s.From("", -1)) != 0 || len(s.Lanes()) != 0 || s.Count() != 0 || s.Bytes() != 0 || s.Steps("a") != 0 || s.Frozen() {
			t.Errorf("nil has something")
		}
		s.Freeze()
	}
}
