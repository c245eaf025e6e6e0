package op_test

import (
	"cmp"
	"math"
	"math/rand"
	"slices"
	"strings"
	"testing"

	"bedrock/api"
	"bedrock/op"
	"bedrock/real"
)

// at makes a version.
func at(a api.Act, origin, tx int, at ...int) api.Version {
	return api.Version{At: at, Origin: origin, Tx: tx, Act: a}
}

func isNum(f float64) api.Value { return api.Value{There: true, Num: f} }

func isInt(n int) api.Value { return api.Value{There: true, Int: n} }

func isText(s string) api.Value { return api.Value{There: true, Text: s} }

var none api.Value

// P603
func TestValue(t *testing.T) {
	for _, c := range []struct {
		what, key string
		l         []api.Version
		v         api.Value
	}{
		{"nothing", "r", nil, none},
		{"nothing", "t", nil, none},
		{"nothing", "c", []api.Version{}, none},
		{"nothing", "x", nil, none},
		{"nothing", "n", nil, none},
		{"no key", "q", []api.Version{at(set(1), 0, 1, 1), at(add(1), 0, 2, 2)}, none},
		{"no key", "", []api.Version{at(set(1), 0, 1, 1)}, none},
		{"no key", "r" + strings.Repeat("k", 64), []api.Version{at(set(1), 0, 1, 1)}, none},

		{"one", "r", []api.Version{at(set(1), 0, 1, 1)}, isNum(1)},
		{"a nought", "r", []api.Version{at(set(0), 0, 1, 1)}, isNum(0)},
		{"-0", "r", []api.Version{at(set(below0), 0, 1, 1)}, isNum(below0)},
		{"nan", "r", []api.Version{at(set(nan), 0, 1, 1)}, isNum(nan)},
		{"a later time", "r", []api.Version{at(set(1), 0, 9, 5), at(set(2), 0, 1, 6)}, isNum(2)},
		{"a later time first", "r", []api.Version{at(set(2), 0, 1, 6), at(set(1), 0, 9, 5)}, isNum(2)},
		{"a time at another place", "r", []api.Version{at(set(1), 0, 1, 5, 9), at(set(2), 0, 1, 6, 0)}, isNum(2)},
		{"a time of another place", "r", []api.Version{at(set(1), 0, 1, 9, 5), at(set(2), 1, 1, 5, 8)}, isNum(1)},
		{"a greater place", "r", []api.Version{at(set(1), 0, 1, 5), at(set(2), 1, 1, 9, 5), at(set(3), 0, 9, 4)}, isNum(2)},
		{"a greater number", "r", []api.Version{at(set(1), 0, 1, 5), at(set(2), 0, 2, 5), at(set(3), 0, 1, 5)}, isNum(2)},
		{"a shorter vector", "r", []api.Version{at(set(1), 0, 1, 5, 0), at(set(2), 0, 1, 5)}, isNum(2)},
		{"a longer vector", "r", []api.Version{at(set(1), 0, 1, 5), at(set(2), 0, 1, 5, 0)}, isNum(1)},
		{"a lesser vector", "r", []api.Version{at(set(1), 0, 1, 5, 7, 1), at(set(2), 0, 1, 5, 6, 9), at(set(3), 0, 1, 5, 7, 0)}, isNum(2)},
		{"the first of two", "r", []api.Version{at(set(1), 0, 2, 5), at(set(2), 0, 2, 5)}, isNum(1)},
		{"gone", "r", []api.Version{at(set(1), 0, 1, 5), at(clear, 0, 1, 6)}, none},
		{"there again", "r", []api.Version{at(clear, 0, 1, 5), at(set(1), 0, 1, 6)}, isNum(1)},
		{"folded", "r", []api.Version{at(set(1), 254, 1, 1, 7), at(set(2), 0, 1, 6, 9)}, isNum(1)},
		{"folded at one time with another one", "r", []api.Version{at(set(1), 254, 1, 1, 7), at(set(2), 1, 1, 6, 7)}, isNum(1)},
		{"folded ahead", "r", []api.Version{at(set(1), 254, 1, 1, 7), at(set(2), 1, 1, 6, 8)}, isNum(2)},
		{"folded below 0", "r", []api.Version{at(set(1), 254, 1, -9, -7), at(set(2), 0, 1, -6)}, isNum(2)},
		{"folded, of many places", "r", []api.Version{at(set(1), 254, 1, append(make([]int, 300), 7)...), at(set(2), 0, 1, 6)}, isNum(1)},
		{"folded, of no place", "r", []api.Version{at(set(1), 254, 1), at(set(2), 0, 1, 1)}, isNum(2)},
		{"folded, of no place, later", "r", []api.Version{at(set(1), 254, 1), at(set(2), 0, 1, -1)}, isNum(1)},
		{"no place of it", "r", []api.Version{at(set(1), 1, 1, 9), at(set(2), 0, 1, 1)}, isNum(2)},
		{"no place of it, later", "r", []api.Version{at(set(1), 1, 1, -9), at(set(2), 0, 1, -1)}, isNum(1)},
		{"no place of it, as late", "r", []api.Version{at(set(1), 1, 1, 9), at(set(2), 0, 1, 0)}, isNum(1)},
		{"a place below 0", "r", []api.Version{at(set(1), -1, 1, 9), at(set(2), 0, 1, 0)}, isNum(2)},
		{"a place far below 0", "r", []api.Version{at(set(1), math.MinInt, 1, 9), at(set(2), -1, 1, 9)}, isNum(2)},
		{"a far place", "r", []api.Version{at(set(1), math.MaxInt, 1, 9), at(set(2), 255, 1, 9), at(set(3), 253, 1, 9)}, isNum(1)},
		{"no vector", "r", []api.Version{{Act: set(1)}, {Act: set(2), Tx: 1}, {Act: set(3), Tx: -1}}, isNum(2)},
		{"an empty vector and none", "r", []api.Version{{Act: set(1)}, {Act: set(2), At: api.Vec{}}}, isNum(1)},
		{"numbers far apart", "r", []api.Version{at(set(1), 0, math.MinInt, 5), at(set(2), 0, math.MaxInt, 5)}, isNum(2)},
		{"times far apart", "r", []api.Version{at(set(1), 0, 1, math.MinInt), at(set(2), 0, 1, math.MaxInt)}, isNum(2)},
		{"vectors far apart", "r", []api.Version{at(set(1), 0, 1, 5, math.MaxInt), at(set(2), 0, 1, 5, math.MinInt)}, isNum(2)},
		{"later acts that don't fit", "r", []api.Version{at(set(1), 0, 1, 1), at(text("a"), 0, 2, 2), at(add(1), 0, 3, 3), at(api.Act{Kind: 9}, 0, 4, 4), at(api.Act{Kind: 4, Int: 1}, 0, 5, 5)}, isNum(1)},
		{"acts that don't fit alone", "r", []api.Version{at(add(1), 0, 1, 1), at(top(1), 0, 1, 1)}, none},

		{"a text", "t", []api.Version{at(text("a"), 254, 1, 1, 7), at(text("b"), 0, 1, 6, 9)}, isText("a")},
		{"an empty text", "t", []api.Version{at(text("a"), 0, 1, 1), at(text(""), 0, 2, 2)}, isText("")},
		{"no text any more", "t", []api.Version{at(text("a"), 0, 1, 1), at(clear, 0, 2, 2)}, none},
		{"a later number", "t", []api.Version{at(text("a"), 0, 1, 1), at(set(5), 0, 2, 2), at(set(below0), 0, 3, 3)}, isText("a")},
		{"too long a text", "t", []api.Version{at(text("a"), 0, 1, 1), at(text(strings.Repeat("x", 1025)), 0, 2, 2)}, isText("a")},

		{"a sum", "c", []api.Version{at(add(5), 0, 1, 1), at(add(-7), 0, 2, 2), at(add(5), 0, 1, 1)}, isInt(3)},
		{"a sum of noughts", "c", []api.Version{at(add(0), 0, 1, 1)}, isInt(0)},
		{"a sum over the end", "c", []api.Version{at(add(math.MaxInt), 0, 1, 1), at(add(1), 0, 2, 2)}, isInt(math.MinInt)},
		{"a sum under the end", "c", []api.Version{at(add(math.MinInt), 0, 1, 1), at(add(-1), 0, 2, 2)}, isInt(math.MaxInt)},
		{"a sum of what fits", "c", []api.Version{at(add(5), 0, 1, 1), at(set(1), 0, 2, 2), at(api.Act{Kind: 1, Int: 1, Num: below0}, 0, 3, 3), at(clear, 0, 4, 4)}, isInt(5)},

		{"nan and less", "x", []api.Version{at(top(nan), 0, 1, 1), at(top(minus), 0, 2, 2)}, isNum(minus)},
		{"nan alone", "x", []api.Version{at(top(nan), 0, 1, 1), at(top(nan), 0, 2, 2)}, isNum(nan)},
		{"noughts", "x", []api.Version{at(top(0), 0, 1, 1), at(top(below0), 0, 2, 2)}, isNum(0)},
		{"noughts", "x", []api.Version{at(top(below0), 0, 1, 1), at(top(0), 0, 2, 2)}, isNum(0)},
		{"below 0 alone", "x", []api.Version{at(top(-5), 0, 1, 1), at(top(-7), 0, 2, 2)}, isNum(-5)},
		{"infinity", "x", []api.Version{at(top(math.MaxFloat64), 0, 1, 1), at(top(inf), 0, 2, 2)}, isNum(inf)},
		{"what fits", "x", []api.Version{at(top(1), 0, 1, 1), at(low(2), 0, 2, 2), at(set(3), 0, 3, 3)}, isNum(1)},

		{"nan and less", "n", []api.Version{at(low(minus), 0, 1, 1), at(low(nan), 0, 2, 2)}, isNum(nan)},
		{"noughts", "n", []api.Version{at(low(0), 0, 1, 1), at(low(below0), 0, 2, 2)}, isNum(below0)},
		{"noughts", "n", []api.Version{at(low(below0), 0, 1, 1), at(low(0), 0, 2, 2)}, isNum(below0)},
		{"above 0 alone", "n", []api.Version{at(low(7), 0, 1, 1), at(low(5), 0, 2, 2)}, isNum(5)},
		{"what fits", "n", []api.Version{at(low(1), 0, 1, 1), at(top(0), 0, 2, 2), at(set(-3), 0, 3, 3)}, isNum(1)},
	} {
		if v := op.Value(c.key, c.l); !sameValue(v, c.v) {
			t.Errorf("Value(%.5q), %s: %.60v, not %.60v", c.key, c.what, v, c.v)
		}
	}
}

// P603: a version's own key is not looked at.
func TestValueLooksAtNoKeyOfVersions(t *testing.T) {
	for _, key := range []string{"", "q", "r", "c", strings.Repeat("r", 300)} {
		l := []api.Version{at(set(1), 0, 1, 1), at(set(2), 0, 2, 2)}
		l[1].Key = key
		if v := op.Value("r", l); !sameValue(v, isNum(2)) {
			t.Errorf("of a version of %.5q: %v", key, v)
		}
	}
}

// timeOf is a version's time by the document's words.
func timeOf(v api.Version) int {
	time := 0
	for i, x := range v.At {
		if i == v.Origin && v.Origin != 254 || v.Origin == 254 && (i == 0 || x > time) {
			time = x
		}
	}
	return time
}

// valueOf is what a key has by the document's words.
func valueOf(key string, l []api.Version) api.Value {
	l = slices.DeleteFunc(slices.Clone(l), func(v api.Version) bool { return !fits(key, v.Act) })
	if len(l) == 0 {
		return none
	}
	switch key[0] {
	case 'c':
		sum := uint64(0)
		for _, v := range l {
			sum += uint64(v.Act.Int)
		}
		return isInt(int(sum))
	case 'x', 'n':
		slices.SortFunc(l, func(v, w api.Version) int { return real.Compare(v.Act.Num, w.Act.Num) })
		if key[0] == 'x' {
			slices.Reverse(l)
		}
		return isNum(l[0].Act.Num)
	}
	slices.SortStableFunc(l, func(v, w api.Version) int {
		return cmp.Or(cmp.Compare(timeOf(w), timeOf(v)), cmp.Compare(w.Origin, v.Origin), cmp.Compare(w.Tx, v.Tx), cmp.Compare(len(v.At), len(w.At)), slices.Compare(v.At, w.At))
	})
	if l[0].Act.Kind == api.ActClear {
		return none
	}
	return api.Value{There: true, Num: l[0].Act.Num, Text: l[0].Act.Text}
}

// some tells one of a list.
func some[T any](r *rand.Rand, l []T) T { return l[r.Intn(len(l))] }

// version makes some version, with few of all numbers: many of them have much in common.
func version(r *rand.Rand, wild bool) api.Version {
	a := some(r, []api.Act{set(0), set(1), set(below0), set(nan), text("a"), text("b"), add(1), add(-5), add(math.MaxInt), top(1), top(nan), top(minus), top(below0), top(0), low(1), low(nan), low(inf), low(below0), low(0), clear, clear, {Kind: 9}, {Num: 1, Text: "a"}})
	vec := make(api.Vec, r.Intn(4))
	for i := range vec {
		vec[i] = r.Intn(3)
	}
	v := at(a, some(r, []int{0, 0, 1, 1, 2, 254}), r.Intn(3), vec...)
	if wild {
		numbers := []int{-1, -2, 3, 253, 255, 300, math.MaxInt, math.MinInt}
		switch r.Intn(3) {
		case 0:
			v.Origin = some(r, numbers)
		case 1:
			v.Tx = some(r, numbers)
		case 2:
			v.At = append(v.At, some(r, numbers))
		}
	}
	return v
}

// versions makes a list of them.
func versions(r *rand.Rand) []api.Version {
	l := make([]api.Version, r.Intn(12))
	for i := range l {
		l[i] = version(r, r.Intn(5) == 0)
	}
	return l
}

// P603: of lists of all kinds.
func TestValueByTheDocument(t *testing.T) {
	r := rand.New(rand.NewSource(6))
	for range 60000 {
		l := versions(r)
		before := slices.Clone(l)
		for _, key := range []string{"r", "t", "c", "x", "n", "q"} {
			want := valueOf(key, l)
			if v := op.Value(key, l); !sameValue(v, want) {
				t.Fatalf("Value(%q, %v): %v, not %v", key, l, v, want)
			}
		}
		for i := range l {
			if !sameAct(l[i].Act, before[i].Act) || l[i].Origin != before[i].Origin || l[i].Tx != before[i].Tx || !slices.Equal(l[i].At, before[i].At) {
				t.Fatalf("Value changed %v to %v", before[i], l[i])
			}
		}
	}
}

// P606
func TestValueInAnyOrder(t *testing.T) {
	r := rand.New(rand.NewSource(606))
	for range 3000 {
		l := versions(r)
		for i := range l {
			l[i].Tx = i // a stamp of its own
		}
		for _, key := range []string{"r", "t", "c", "x", "n"} {
			want := op.Value(key, l)
			for range 10 {
				r.Shuffle(len(l), func(i, k int) { l[i], l[k] = l[k], l[i] })
				if v := op.Value(key, l); !sameValue(v, want) {
					t.Fatalf("Value(%q, %v): %v, not %v", key, l, v, want)
				}
			}
		}
	}
}

// P604
func TestAfter(t *testing.T) {
	all := api.Value{There: true, Num: 1, Int: 5, Text: "a"}
	gone := api.Value{Num: 1, Int: 5, Text: "a"}
	for _, c := range []struct {
		key string
		v   api.Value
		a   api.Act
		to  api.Value
	}{
		{"c", isInt(5), add(-7), isInt(-2)},
		{"c", none, add(3), isInt(3)},
		{"c", none, add(0), isInt(0)},
		{"c", isInt(math.MaxInt), add(1), isInt(math.MinInt)},
		{"c", isInt(math.MinInt), add(-1), isInt(math.MaxInt)},
		{"c", all, add(1), isInt(6)},
		{"c", gone, add(1), isInt(1)},
		{"x", isNum(1), top(2), isNum(2)},
		{"x", isNum(1), top(nan), isNum(1)},
		{"x", isNum(nan), top(minus), isNum(minus)},
		{"x", isNum(nan), top(nan), isNum(nan)},
		{"x", isNum(below0), top(0), isNum(0)},
		{"x", isNum(0), top(below0), isNum(0)},
		{"x", none, top(-3), isNum(-3)},
		{"x", none, top(nan), isNum(nan)},
		{"x", all, top(0), isNum(1)},
		{"x", gone, top(0), isNum(0)},
		{"n", isNum(1), low(2), isNum(1)},
		{"n", isNum(1), low(nan), isNum(nan)},
		{"n", isNum(nan), low(minus), isNum(nan)},
		{"n", isNum(0), low(below0), isNum(below0)},
		{"n", isNum(below0), low(0), isNum(below0)},
		{"n", none, low(3), isNum(3)},
		{"n", none, low(inf), isNum(inf)},
		{"n", all, low(2), isNum(1)},
		{"n", gone, low(2), isNum(2)},
		{"r", isNum(1), set(2), isNum(2)},
		{"r", isNum(1), set(0), isNum(0)},
		{"r", isNum(1), set(below0), isNum(below0)},
		{"r", none, set(nan), isNum(nan)},
		{"r", isNum(1), clear, none},
		{"r", none, clear, none},
		{"r", all, clear, none},
		{"r", gone, clear, none},
		{"r", all, set(2), isNum(2)},
		{"r", gone, set(2), isNum(2)},
		{"t", isNum(1), text("b"), isText("b")},
		{"t", isText("a"), text(""), isText("")},
		{"t", none, text("b"), isText("b")},
		{"t", all, text("b"), isText("b")},
		{"t", all, clear, none},
		{"t", gone, clear, none},
	} {
		if v := op.After(c.key, c.v, c.a); !sameValue(v, c.to) {
			t.Errorf("After(%q, %v, %v): %v, not %v", c.key, c.v, c.a, v, c.to)
		}
	}
}

// P604: an act that does not fit leaves each field, and one that fits tells of a value that is not There what it tells of nothing.
func TestAfterByTheDocument(t *testing.T) {
	values := []api.Value{none, isNum(1), isInt(5), isText("a"), {There: true, Num: nan, Int: -1, Text: "a"}, {Num: below0, Int: 9, Text: "b"}, {There: true, Num: below0, Int: math.MinInt}}
	l := append(rights(), api.Act{Kind: 9}, api.Act{Num: 1, Text: "a"}, api.Act{Kind: 4, Int: 1}, api.Act{Kind: 1, Num: below0}, text(strings.Repeat("x", 1025)))
	for _, key := range append(slices.Clone(keys), noKeys...) {
		for _, v := range values {
			for _, a := range l {
				want := v
				if fits(key, a) {
					earlier := []api.Version{}
					if v.There {
						earlier = append(earlier, at(actOf(key, v), 0, 1, 1))
					}
					want = valueOf(key, append(earlier, at(a, 0, 2, 2)))
				}
				if got := op.After(key, v, a); !sameValue(got, want) {
					t.Fatalf("After(%.5q, %.60v, %.60v): %.60v, not %.60v", key, v, a, got, want)
				}
			}
		}
	}
}

// actOf tells an act that leaves what such a key looks at of a value.
func actOf(key string, v api.Value) api.Act {
	switch key[0] {
	case 'c':
		return add(v.Int)
	case 'x':
		return top(v.Num)
	case 'n':
		return low(v.Num)
	case 't':
		return text(v.Text)
	}
	return set(v.Num)
}

// P604
func TestBoth(t *testing.T) {
	long := text(strings.Repeat("x", 1025))
	for _, c := range []struct {
		key      string
		a, b, to api.Act
	}{
		{"c", add(5), add(7), add(12)},
		{"c", add(0), add(0), add(0)},
		{"c", add(math.MaxInt), add(1), add(math.MinInt)},
		{"c", add(1), set(2), set(2)},
		{"c", set(1), add(2), add(2)},
		{"c", clear, add(2), add(2)},
		{"c", api.Act{Kind: 1, Int: 1, Text: "a"}, add(2), add(2)},
		{"x", top(1), top(2), top(2)},
		{"x", top(2), top(1), top(2)},
		{"x", top(nan), top(minus), top(minus)},
		{"x", top(nan), top(nan), top(nan)},
		{"x", top(0), top(below0), top(0)},
		{"x", top(9), low(2), low(2)},
		{"x", low(9), top(2), top(2)},
		{"n", low(1), low(below0), low(below0)},
		{"n", low(below0), low(0), low(below0)},
		{"n", low(inf), low(2), low(2)},
		{"n", low(2), low(inf), low(2)},
		{"n", low(2), low(nan), low(nan)},
		{"n", low(1), top(2), top(2)},
		{"r", set(1), set(2), set(2)},
		{"r", set(1), clear, clear},
		{"r", clear, set(0), set(0)},
		{"r", set(1), text("a"), text("a")},
		{"t", text("a"), text(""), text("")},
		{"t", text("a"), clear, clear},
		{"t", text("a"), long, long},
		{"q", add(1), add(2), add(2)},
		{"", add(1), add(2), add(2)},
		{"c" + strings.Repeat("k", 64), add(1), add(2), add(2)},
		{"c", add(1), api.Act{Kind: 9, Num: nan, Int: 3, Text: "a"}, api.Act{Kind: 9, Num: nan, Int: 3, Text: "a"}},
	} {
		if a := op.Both(c.key, c.a, c.b); !sameAct(a, c.to) {
			t.Errorf("Both(%.5q, %v, %.60v): %v, not %.60v", c.key, c.a, c.b, a, c.to)
		}
	}
}

// P604: of acts that fit the one does what both do, whatever was there.
func TestBothDoesWhatTheyDo(t *testing.T) {
	l := []api.Act{set(0), set(1), set(nan), set(below0), text("a"), text("b"), add(0), add(5), add(-7), add(math.MaxInt), add(math.MinInt), top(0), top(below0), top(nan), top(minus), top(5), low(0), low(below0), low(nan), low(inf), low(5), clear}
	values := []api.Value{none, isNum(1), isNum(nan), isNum(below0), isNum(inf), isInt(5), isInt(math.MaxInt), isText("c")}
	for _, key := range []string{"r", "t", "c", "x", "n"} {
		for _, a := range l {
			for _, b := range l {
				both := op.Both(key, a, b)
				if !fits(key, a) || !fits(key, b) {
					if !sameAct(both, b) {
						t.Errorf("Both(%q, %v, %v): %v", key, a, b, both)
					}
					continue
				}
				for _, v := range values {
					want, got := op.After(key, op.After(key, v, a), b), op.After(key, v, both)
					if !fits(key, both) || !sameValue(got, want) {
						t.Errorf("Both(%q, %v, %v): %v, by which %v becomes %v, not %v", key, a, b, both, v, got, want)
					}
				}
			}
		}
	}
}
