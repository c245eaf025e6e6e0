package fold_test

import (
	"fmt"
	"math"
	"slices"
	"strings"
	"testing"

	"bedrock/api"
	"bedrock/fold"
	"bedrock/op"
)

type versions = []api.Version

var (
	nan    = math.NaN()
	inf    = math.Inf(1)
	below0 = math.Copysign(0, -1)
)

var gone = api.Act{Kind: api.ActClear}

func set(f float64) api.Act { return api.Act{Kind: api.ActSet, Num: f} }

func text(s string) api.Act { return api.Act{Kind: api.ActSet, Text: s} }

func add(n int) api.Act { return api.Act{Kind: api.ActAdd, Int: n} }

func top(f float64) api.Act { return api.Act{Kind: api.ActMax, Num: f} }

func low(f float64) api.Act { return api.Act{Kind: api.ActMin, Num: f} }

// v makes a version without a key.
func v(a api.Act, origin, tx int, at ...int) api.Version {
	return api.Version{At: at, Origin: origin, Tx: tx, Act: a}
}

// folded makes what versions of a key were folded to.
func folded(key string, a api.Act, tx int, at ...int) api.Version {
	return api.Version{Key: key, At: at, Origin: 254, Tx: tx, Act: a}
}

// show tells versions to the last field, -0 and nan too.
func show(l versions) string {
	var s []string
	for _, v := range l {
		s = append(s, fmt.Sprintf("%q %v from %d, %d: %d %v %d %q", v.Key, v.At, v.Origin, v.Tx, v.Act.Kind, v.Act.Num, v.Act.Int, v.Act.Text))
	}
	return strings.Join(s, "; ")
}

// turned are the same versions, the last one first.
func turned(l versions) versions {
	l = slices.Clone(l)
	slices.Reverse(l)
	return l
}

// P1701: in whatever order versions with a place in the order of their own stand.
func TestOrder(t *testing.T) {
	for _, c := range []struct {
		what string
		want versions
	}{
		{"none", nil},
		{"one", versions{v(set(1), 0, 1, 1)}},
		{"the greater time first", versions{v(set(1), 0, 0, 3), v(set(2), 0, 9, 2), v(set(3), 0, 5, 1)}},
		{"its own time", versions{v(set(1), 1, 0, 0, 3), v(set(2), 0, 0, 2, 9), v(set(3), 1, 0, 7, 1)}},
		{"of one time the greater place", versions{v(set(1), 2, 0, 0, 0, 5), v(set(2), 1, 9, 9, 5), v(set(3), 0, 9, 5, 9, 9)}},
		{"of one place the greater number", versions{v(set(1), 0, 9, 5), v(set(2), 0, 3, 5), v(set(3), 0, -3, 5)}},
		{"of one stamp the shorter vector", versions{v(set(1), 0, 1, 5), v(set(2), 0, 1, 5, 0), v(set(3), 0, 1, 5, 0, 0)}},
		{"of one stamp the lesser vector", versions{v(set(1), 1, 1, 2, 5, 9), v(set(2), 1, 1, 3, 5, 1), v(set(3), 1, 1, 3, 5, 2)}},
		{"a longer vector, though its first time is less", versions{v(set(1), 1, 1, 9, 5), v(set(2), 1, 1, 0, 5, 0)}},
		{"a time that can't be", versions{v(set(1), 0, 0, math.MaxInt), v(set(2), 0, 0, 0), v(set(3), 0, 0, -1), v(set(4), 0, 0, math.MinInt)}},
		{"vectors far apart", versions{v(set(1), 0, 1, 5, math.MinInt), v(set(2), 0, 1, 5, math.MaxInt)}},
		{"numbers far apart", versions{v(set(1), 0, math.MaxInt, 5), v(set(2), 0, math.MinInt, 5)}},
		{"folded: the greatest time", versions{v(set(1), 0, 0, 8, 0), v(set(2), 254, 0, 1, 7), v(set(3), 1, 0, 9, 7), v(set(4), 254, 0, 6, 2)}},
		{"folded, below 0", versions{v(set(1), 0, 0, -1), v(set(2), 254, 0, -9, -2), v(set(3), 0, 0, -3)}},
		{"folded, of many places", versions{v(set(1), 0, 0, 8), v(set(2), 254, 0, append([]int{7}, make([]int, 300)...)...), v(set(3), 0, 0, 6)}},
		{"folded, of no place", versions{v(set(1), 0, 0, 1), v(set(2), 254, 0), v(set(3), 0, 0, 0), v(set(4), 0, 0, -1)}},
		{"no place of it: 0", versions{v(set(1), 0, 0, 1), v(set(2), 1, 0, 50), v(set(3), 0, 0, 0), v(set(4), 0, 0, -1)}},
		{"no place of it, as 0", versions{v(set(1), 9, 0, 50), v(set(2), 1, 0, 50), v(set(3), 0, 9, 0), v(set(4), -1, 9, 50)}},
		{"places far off", versions{v(set(1), math.MaxInt, 0, 5), v(set(2), 255, 0, 5), v(set(3), 253, 0, 5), v(set(4), math.MinInt, 0, 5)}},
		{"no vector", versions{v(set(1), 0, 3), v(set(2), 0, 2), v(set(3), 0, 1)}},
		{"acts that fit nothing", versions{v(api.Act{Kind: 9, Num: nan, Text: "a"}, 0, 2, 2), v(api.Act{Kind: -1, Int: 5}, 0, 1, 1)}},
	} {
		for _, l := range []versions{c.want, turned(c.want)} {
			if got := fold.Order(l); show(got) != show(c.want) {
				t.Errorf("%s: Order(%.300s): %.300s", c.what, show(l), show(got))
			}
		}
	}
}

// P1701: of several with one stamp and one vector the first one alone, whatever else they have.
func TestOrderTakesTheFirst(t *testing.T) {
	keyed := func(key string, v api.Version) api.Version {
		v.Key = key
		return v
	}
	for _, c := range []struct {
		what    string
		l, want versions
	}{
		{"one twice", versions{v(set(1), 0, 1, 5), v(set(1), 0, 1, 5)}, versions{v(set(1), 0, 1, 5)}},
		{"another act", versions{v(set(2), 0, 1, 5), v(set(1), 0, 1, 5), v(set(3), 0, 1, 5)}, versions{v(set(2), 0, 1, 5)}},
		{"an act that fits nothing", versions{v(api.Act{Kind: 9}, 0, 1, 5), v(set(1), 0, 1, 5)}, versions{v(api.Act{Kind: 9}, 0, 1, 5)}},
		{"another key", versions{keyed("b", v(set(1), 0, 1, 5)), keyed("a", v(set(1), 0, 1, 5))}, versions{keyed("b", v(set(1), 0, 1, 5))}},
		{"others between", versions{v(set(1), 0, 1, 5), v(set(2), 0, 1, 9), v(set(3), 0, 1, 5), v(set(4), 0, 1, 2), v(set(5), 0, 1, 9)}, versions{v(set(2), 0, 1, 9), v(set(1), 0, 1, 5), v(set(4), 0, 1, 2)}},
		{"another number", versions{v(set(1), 0, 1, 5), v(set(2), 0, 2, 5)}, versions{v(set(2), 0, 2, 5), v(set(1), 0, 1, 5)}},
		{"another place", versions{v(set(1), 0, 1, 5, 5), v(set(2), 1, 1, 5, 5)}, versions{v(set(2), 1, 1, 5, 5), v(set(1), 0, 1, 5, 5)}},
		{"another vector", versions{v(set(1), 0, 1, 5, 5), v(set(2), 0, 1, 5, 4)}, versions{v(set(2), 0, 1, 5, 4), v(set(1), 0, 1, 5, 5)}},
		{"folded", versions{v(add(1), 254, 1, 5, 4), v(add(2), 254, 1, 5, 4), v(add(3), 254, 1, 4, 5)}, versions{v(add(3), 254, 1, 4, 5), v(add(1), 254, 1, 5, 4)}},
		{"no place of it", versions{v(set(1), 3, 1, 5), v(set(2), 3, 1, 5), v(set(3), 3, 1, 6)}, versions{v(set(1), 3, 1, 5), v(set(3), 3, 1, 6)}},
		{"an empty vector and none", versions{{Act: set(1)}, {Act: set(2), At: api.Vec{}}}, versions{{Act: set(1)}}},
	} {
		if got := fold.Order(c.l); show(got) != show(c.want) {
			t.Errorf("%s: Order(%s): %s", c.what, show(c.l), show(got))
		}
	}
}

// P1701
func TestRead(t *testing.T) {
	long := "r" + strings.Repeat("k", 64)
	regs := versions{v(set(1), 0, 1, 4, 0), v(set(2), 1, 1, 4, 6), v(gone, 0, 2, 7, 6), v(set(3), 0, 3, 8, 0), v(add(5), 0, 4, 9, 9)}
	sums := versions{v(add(1), 0, 1, 1, 0), v(add(2), 1, 1, 0, 2), v(add(4), 254, 1, 3, 3), v(add(8), 1, 1, 0, 2)}
	for _, c := range []struct {
		key  string
		l    versions
		at   api.Vec
		want string
	}{
		{"r", nil, api.Vec{1}, "none"},
		{"r", regs, api.Vec{3, 9}, "none"},
		{"r", regs, api.Vec{4, 5}, "1"},
		{"r", regs, api.Vec{4, 6}, "2"},
		{"r", regs, api.Vec{7, 5}, "1"},
		{"r", regs, api.Vec{7, 6}, "none"},
		{"r", regs, api.Vec{8, 0}, "3"},
		{"r", regs, api.Vec{9, 9}, "3"},
		{"r", regs, api.Vec{math.MaxInt, math.MaxInt}, "3"},
		{"r", regs, api.Vec{9}, "none"},
		{"r", regs, api.Vec{9, 9, 9}, "none"},
		{"r", regs, nil, "none"},
		{"q", regs, api.Vec{9, 9}, "none"},
		{"", regs, api.Vec{9, 9}, "none"},
		{long, regs, api.Vec{9, 9}, "none"},
		{"t", regs, api.Vec{9, 9}, "none"},
		{"c", regs, api.Vec{9, 9}, "5"},
		{"c", sums, api.Vec{0, 0}, "none"},
		{"c", sums, api.Vec{1, 1}, "1"},
		{"c", sums, api.Vec{1, 2}, "3"},
		{"c", sums, api.Vec{3, 2}, "3"},
		{"c", sums, api.Vec{3, 3}, "7"},
		{"c", versions{v(add(math.MaxInt), 0, 1, 1), v(add(1), 0, 2, 2)}, api.Vec{2}, "-9223372036854775808"},
		{"x", versions{v(top(nan), 0, 1, 1), v(top(below0), 0, 2, 2), v(top(0), 0, 3, 3), v(top(inf), 0, 4, 4)}, api.Vec{1}, "nan"},
		{"x", versions{v(top(nan), 0, 1, 1), v(top(below0), 0, 2, 2), v(top(0), 0, 3, 3), v(top(inf), 0, 4, 4)}, api.Vec{2}, "-0"},
		{"x", versions{v(top(nan), 0, 1, 1), v(top(below0), 0, 2, 2), v(top(0), 0, 3, 3), v(top(inf), 0, 4, 4)}, api.Vec{3}, "0"},
		{"x", versions{v(top(nan), 0, 1, 1), v(top(below0), 0, 2, 2), v(top(0), 0, 3, 3), v(top(inf), 0, 4, 4)}, api.Vec{4}, "inf"},
		{"n", versions{v(low(inf), 0, 1, 1), v(low(0), 0, 2, 2), v(low(below0), 0, 3, 3), v(low(nan), 0, 4, 4)}, api.Vec{3}, "-0"},
		{"t", versions{v(text("a"), 0, 1, 1), v(text(""), 0, 2, 2)}, api.Vec{2}, `""`},
		{"r", versions{v(set(1), -1, 1, 1)}, api.Vec{1}, "1"},
		{"r", versions{v(set(1), 5, 1, 9), v(set(2), 0, 1, 1)}, api.Vec{9}, "2"},
		{"r", versions{{Act: set(1)}}, nil, "1"},
		{"r", versions{{Act: set(1)}}, api.Vec{}, "1"},
		{"r", versions{{Act: set(1)}}, api.Vec{0}, "none"},
		{"r", versions{v(set(1), 0, 1, -5)}, api.Vec{-5}, "1"},
		// The first of two that are one is there alone, also where it says nothing.
		{"r", versions{v(add(1), 0, 1, 1), v(set(1), 0, 1, 1)}, api.Vec{1}, "none"},
		{"c", versions{v(add(1), 0, 1, 1), v(add(2), 0, 1, 1)}, api.Vec{1}, "1"},
		{"c", versions{v(set(1), 0, 1, 1), v(add(2), 0, 1, 1), v(add(4), 0, 2, 1)}, api.Vec{1}, "4"},
	} {
		if got := op.Text(c.key, fold.Read(c.key, c.l, c.at)); got != c.want {
			t.Errorf("Read(%.5q, %s, %v): %s, not %s", c.key, show(c.l), c.at, got, c.want)
		}
	}
}

// dropped is a Drop and what is to stay.
type dropped struct {
	what, key string
	l         versions
	floor     api.Vec
	all       bool
	want      versions
}

// hold holds what Drop tells against what is wanted, in whatever order the versions stand.
func (c dropped) hold(t *testing.T) {
	t.Helper()
	for _, l := range []versions{c.l, turned(c.l)} {
		if got := fold.Drop(c.key, l, c.floor, c.all); show(got) != show(c.want) {
			t.Errorf("%s: Drop(%.5q, %s, %v, %t): %s, not %s", c.what, c.key, show(l), c.floor, c.all, show(got), show(c.want))
		}
	}
}

// P1702: of r and t.
func TestDropOfWhatIsSet(t *testing.T) {
	floor := api.Vec{5, 3}
	none := versions{}
	one, two, three := v(set(1), 0, 1, 3, 0), v(set(2), 0, 2, 4, 2), v(set(3), 1, 1, 5, 3)
	above, aside := v(set(7), 0, 9, 6, 3), v(set(8), 1, 9, 0, 4)
	clear3, clear5 := v(gone, 1, 1, 2, 3), v(gone, 0, 2, 5, 3)
	long := text(strings.Repeat("x", 1025))
	for _, c := range []dropped{
		{"none", "r", nil, floor, true, none},
		{"one", "r", versions{one}, floor, true, versions{one}},
		{"the first one alone", "r", versions{one, two, three}, floor, true, versions{two}},
		{"the first one alone, not all", "r", versions{one, two, three}, floor, false, versions{two}},
		{"just the floor", "r", versions{three, v(set(9), 0, 5, 5, 3)}, floor, true, versions{v(set(9), 0, 5, 5, 3)}},
		{"all above", "r", versions{above, aside}, floor, true, versions{above, aside}},
		{"above, and the first one", "r", versions{one, two, above, aside}, floor, true, versions{above, aside, two}},
		{"one that is not seen behind it", "r", versions{two, v(set(9), 1, 1, 9, 1), one}, floor, true, versions{two, v(set(9), 1, 1, 9, 1)}},
		{"other numbers of places are not seen", "r", versions{one, v(set(9), 0, 1, 1), v(set(9), 0, 1, 1, 1, 1), v(set(9), 0, 1)}, floor, true, versions{one, v(set(9), 0, 1, 1), v(set(9), 0, 1, 1, 1, 1), v(set(9), 0, 1)}},
		{"a Clear", "r", versions{clear3}, floor, true, none},
		{"a Clear, not all", "r", versions{clear3}, floor, false, versions{clear3}},
		{"a Clear hides what is behind it", "r", versions{v(gone, 0, 5, 3, 0), v(set(1), 0, 1, 2, 0)}, floor, true, none},
		{"a Clear hides what is behind it, not all", "r", versions{v(gone, 0, 5, 3, 0), v(set(1), 0, 1, 2, 0)}, floor, false, versions{v(gone, 0, 5, 3, 0)}},
		{"a Clear behind another one", "r", versions{v(gone, 0, 5, 3, 0), v(gone, 0, 1, 2, 0)}, floor, true, none},
		{"a Clear that is hidden", "r", versions{clear3, two}, floor, true, versions{two}},
		{"a Clear behind what is not seen", "r", versions{clear3, above, aside}, floor, true, versions{above, aside}},
		{"a Clear behind what is not seen, not all", "r", versions{clear3, above, aside}, floor, false, versions{above, aside, clear3}},
		{"a Clear whose time is too great", "r", versions{clear5}, floor, true, versions{clear5}},
		{"a Clear whose time is one too great", "r", versions{v(gone, 0, 1, 4, 0)}, floor, true, versions{v(gone, 0, 1, 4, 0)}},
		{"a Clear whose time is that of the other place", "r", versions{v(gone, 0, 1, 3, 3)}, floor, true, none},
		{"a Clear at the floor's least time", "r", versions{v(gone, 0, 1, 3, 0)}, floor, true, none},
		{"a Clear at the least time, the other way round", "r", versions{v(gone, 1, 1, 0, 3)}, api.Vec{3, 5}, true, none},
		{"a Clear above it, the other way round", "r", versions{v(gone, 1, 1, 0, 4)}, api.Vec{3, 5}, true, versions{v(gone, 1, 1, 0, 4)}},
		{"a Clear ahead of a lesser time that is not seen", "r", versions{clear3, v(set(9), 1, 5, 9, 2)}, floor, true, versions{clear3, v(set(9), 1, 5, 9, 2)}},
		{"a Clear ahead of a lesser place that is not seen", "r", versions{clear3, v(set(9), 0, 5, 3, 9)}, floor, true, versions{clear3, v(set(9), 0, 5, 3, 9)}},
		{"a Clear ahead of a lesser number that is not seen", "r", versions{clear3, v(set(9), 1, 0, 9, 3)}, floor, true, versions{clear3, v(set(9), 1, 0, 9, 3)}},
		{"a Clear ahead of a greater vector that is not seen", "r", versions{clear3, v(set(9), 1, 1, 9, 3)}, floor, true, versions{clear3, v(set(9), 1, 1, 9, 3)}},
		{"a Clear ahead of a longer vector", "r", versions{clear3, v(set(9), 1, 1, 0, 3, 0)}, floor, true, versions{clear3, v(set(9), 1, 1, 0, 3, 0)}},
		{"a Clear behind a shorter vector", "r", versions{v(gone, 0, 1, 2, 0), v(set(9), 0, 1, 2)}, floor, true, versions{v(set(9), 0, 1, 2)}},
		{"a Clear behind a greater number that is not seen", "r", versions{clear3, v(set(9), 1, 2, 9, 3)}, floor, true, versions{v(set(9), 1, 2, 9, 3)}},
		{"a Clear behind a lesser vector that is not seen", "r", versions{v(gone, 0, 1, 3, 3), v(set(9), 0, 1, 3)}, api.Vec{3, 3}, true, versions{v(set(9), 0, 1, 3)}},
		{"a Clear ahead of what is not seen and says nothing", "r", versions{clear3, v(add(1), 0, 1, 1, 9)}, floor, true, versions{clear3, v(add(1), 0, 1, 1, 9)}},
		{"a Clear ahead of what is seen and says nothing", "r", versions{clear3, v(add(1), 0, 1, 1, 1)}, floor, true, none},
		{"a Clear that is not seen", "r", versions{v(gone, 0, 1, 0, 4)}, floor, true, versions{v(gone, 0, 1, 0, 4)}},
		{"a Clear that is folded", "r", versions{v(gone, 254, 1, 1, 3)}, floor, true, none},
		{"a Clear that is folded, too late", "r", versions{v(gone, 254, 1, 4, 3)}, floor, true, versions{v(gone, 254, 1, 4, 3)}},
		{"a Clear of no place of it", "r", versions{v(gone, 2, 1, 5, 3)}, floor, true, none},
		{"a Clear of no place of it, at noughts", "r", versions{v(gone, -1, 1, 0, 0)}, api.Vec{0, 9}, true, none},
		{"a Clear below 0", "r", versions{v(gone, 0, 1, -1, -1)}, api.Vec{0, 0}, true, none},
		{"a Clear with something of it", "r", versions{v(api.Act{Kind: api.ActClear, Num: below0}, 0, 1, 1, 1)}, floor, true, none},
		{"acts that do not fit", "r", versions{v(add(1), 0, 3, 5, 3), v(text("a"), 0, 2, 5, 3), one, v(top(1), 0, 1, 1, 1)}, floor, true, versions{one}},
		{"acts that do not fit, not all", "r", versions{v(add(1), 0, 3, 5, 3), v(text("a"), 0, 2, 5, 3), one, v(top(1), 0, 1, 1, 1)}, floor, false, versions{one}},
		{"acts that do not fit, and are not seen", "r", versions{v(add(1), 0, 3, 6, 3), one, v(top(1), 0, 1, 1, 9)}, floor, true, versions{v(add(1), 0, 3, 6, 3), one, v(top(1), 0, 1, 1, 9)}},
		{"acts that do not fit alone", "r", versions{v(add(1), 0, 3, 5, 3), v(api.Act{Kind: 9}, 0, 1, 1, 1)}, floor, false, none},
		{"texts", "t", versions{v(text("a"), 0, 1, 1, 1), v(text("b"), 0, 2, 2, 2), v(set(5), 0, 3, 3, 3), v(long, 0, 4, 4, 3)}, floor, true, versions{v(text("b"), 0, 2, 2, 2)}},
		{"an empty text", "t", versions{v(text("a"), 0, 1, 1, 1), v(text(""), 0, 2, 2, 2)}, floor, true, versions{v(text(""), 0, 2, 2, 2)}},
		{"no text any more", "t", versions{v(text("a"), 0, 1, 1, 1), clear3}, floor, true, none},
		{"no text any more, not all", "t", versions{v(text("a"), 0, 1, 1, 1), clear3}, floor, false, versions{clear3}},
		{"-0 and nan", "r", versions{v(set(nan), 0, 1, 1, 1), v(set(below0), 0, 2, 2, 2)}, floor, true, versions{v(set(below0), 0, 2, 2, 2)}},
		{"nan alone", "r" + strings.Repeat("k", 63), versions{v(set(nan), 0, 1, 1, 1)}, floor, true, versions{v(set(nan), 0, 1, 1, 1)}},
		{"a floor of one place", "r", versions{v(set(1), 0, 1, 1), v(set(2), 0, 2, 2), v(set(3), 0, 3, 3)}, api.Vec{2}, true, versions{v(set(3), 0, 3, 3), v(set(2), 0, 2, 2)}},
		{"a floor of noughts", "r", versions{v(set(1), 0, 1, 1, 0), v(set(2), 0, 0, 0, 0), v(set(3), 0, 0, 0, 1)}, api.Vec{0, 0}, true, versions{v(set(1), 0, 1, 1, 0), v(set(2), 0, 0, 0, 0), v(set(3), 0, 0, 0, 1)}},
		{"a floor of eight places", "r", versions{v(set(1), 7, 1, 1, 1, 1, 1, 1, 1, 1, 1), v(set(2), 7, 2, 1, 1, 1, 1, 1, 1, 1, 2), v(set(3), 7, 3, 1, 1, 1, 1, 1, 1, 1, 3)}, api.Vec{1, 1, 1, 1, 1, 1, 1, 2}, true, versions{v(set(3), 7, 3, 1, 1, 1, 1, 1, 1, 1, 3), v(set(2), 7, 2, 1, 1, 1, 1, 1, 1, 1, 2)}},
		{"the greatest floor", "r", versions{v(set(1), 0, 1, api.MaxTime-2), v(gone, 0, 2, api.MaxTime-1)}, api.Vec{api.MaxTime - 1}, true, none},
	} {
		c.hold(t)
	}
}

// P1702: of c, x and n.
func TestDropOfWhatAddsUp(t *testing.T) {
	floor := api.Vec{5, 3}
	one, two, other := v(add(1), 0, 1, 4, 0), v(add(2), 0, 2, 5, 2), v(add(4), 1, 9, 0, 3)
	above, aside := v(add(8), 0, 9, 6, 3), v(add(16), 1, 9, 0, 4)
	none := versions{}
	for _, c := range []dropped{
		{"none", "c", nil, floor, true, none},
		{"one", "c", versions{one}, floor, true, versions{one}},
		{"one that is folded", "c", versions{folded("c", add(5), 1, 4, 3)}, floor, true, versions{folded("c", add(5), 1, 4, 3)}},
		{"two", "c", versions{one, two}, floor, true, versions{folded("c", add(3), 2, 5, 2)}},
		{"two, not all", "c", versions{one, two}, floor, false, versions{two, one}},
		{"three", "c1", versions{one, two, other}, floor, true, versions{folded("c1", add(7), 9, 5, 3)}},
		{"three, not all", "c1", versions{one, two, other}, floor, false, versions{two, one, other}},
		{"the greatest number, wherever it is", "c", versions{v(add(1), 0, 7, 3, 0), v(add(2), 0, 1, 4, 0), v(add(4), 0, 3, 5, 0)}, floor, true, versions{folded("c", add(7), 7, 5, 0)}},
		{"numbers below 0", "c", versions{v(add(1), 0, -7, 3, 0), v(add(2), 0, math.MinInt, 4, 0)}, floor, true, versions{folded("c", add(3), -7, 4, 0)}},
		{"times below 0", "c", versions{v(add(1), 0, 1, -7, -1), v(add(2), 0, 2, -8, math.MinInt)}, floor, true, versions{folded("c", add(3), 2, -7, -1)}},
		{"all above", "c", versions{above, aside}, floor, true, versions{above, aside}},
		{"one, and what is above", "c", versions{above, one, aside}, floor, true, versions{above, aside, one}},
		{"one ahead of what is not seen", "c", versions{above, two, aside}, floor, true, versions{above, two, aside}},
		{"behind all that stay", "c", versions{one, two, above, aside, v(add(32), 1, 0, 9, 1)}, floor, true, versions{above, aside, v(add(32), 1, 0, 9, 1), folded("c", add(3), 2, 5, 2)}},
		{"in order, not all", "c", versions{one, two, above, aside, v(add(32), 1, 0, 9, 1)}, floor, false, versions{above, two, aside, one, v(add(32), 1, 0, 9, 1)}},
		{"one that is not seen between", "c", versions{one, v(add(2), 0, 1, 3, 4), v(add(4), 0, 1, 2, 0)}, floor, true, versions{v(add(2), 0, 1, 3, 4), folded("c", add(5), 1, 4, 0)}},
		{"other numbers of places are not seen", "c", versions{one, v(add(2), 0, 1, 1), v(add(4), 0, 1, 1, 1, 1)}, floor, true, versions{one, v(add(2), 0, 1, 1), v(add(4), 0, 1, 1, 1, 1)}},
		{"with one that is folded", "c", versions{folded("c", add(64), 1, 4, 3), two, one}, floor, true, versions{folded("c", add(67), 2, 5, 3)}},
		{"with one that is folded, which comes first", "c", versions{folded("c", add(64), 99, 5, 3), two}, floor, true, versions{folded("c", add(66), 99, 5, 3)}},
		{"with one of no place of it", "c", versions{v(add(1), 9, 1, 4, 3), v(add(2), -1, 2, 5, 0)}, floor, true, versions{folded("c", add(3), 2, 5, 3)}},
		{"over the end", "c", versions{v(add(math.MaxInt), 0, 1, 1, 0), v(add(1), 0, 2, 2, 0)}, floor, true, versions{folded("c", add(math.MinInt), 2, 2, 0)}},
		{"under the end", "c", versions{v(add(math.MinInt), 0, 1, 1, 0), v(add(-1), 0, 2, 2, 0)}, floor, true, versions{folded("c", add(math.MaxInt), 2, 2, 0)}},
		{"over the end and back", "c", versions{v(add(math.MaxInt), 0, 1, 1, 0), v(add(5), 0, 2, 2, 0), v(add(-5), 0, 3, 3, 0)}, floor, true, versions{folded("c", add(math.MaxInt), 3, 3, 0)}},
		{"a sum of 0", "c", versions{v(add(5), 0, 1, 1, 0), v(add(-5), 0, 2, 2, 0)}, floor, true, versions{folded("c", add(0), 2, 2, 0)}},
		{"acts that do not fit", "c", versions{one, v(set(1), 0, 5, 5, 3), v(gone, 0, 3, 3, 0), v(top(1), 0, 2, 2, 0)}, floor, true, versions{one}},
		{"acts that do not fit, of two", "c", versions{one, two, v(api.Act{Kind: api.ActAdd, Int: 7, Text: "a"}, 1, 77, 5, 3)}, floor, true, versions{folded("c", add(3), 2, 5, 2)}},
		{"acts that do not fit, not all", "c", versions{one, v(set(1), 0, 5, 5, 3), two, v(gone, 0, 3, 3, 0)}, floor, false, versions{two, one}},
		{"acts that do not fit, and are not seen", "c", versions{one, v(set(1), 0, 5, 6, 3), two}, floor, true, versions{v(set(1), 0, 5, 6, 3), folded("c", add(3), 2, 5, 2)}},
		{"acts that do not fit alone", "c", versions{v(set(1), 0, 5, 5, 3), v(low(1), 0, 3, 3, 0)}, floor, true, none},
		{"the latest", "x", versions{v(top(3), 0, 1, 4, 0), v(top(7), 0, 2, 3, 0), v(top(1), 254, 8, 1, 1)}, floor, true, versions{folded("x", top(7), 8, 4, 1)}},
		{"nan and -infinity", "x", versions{v(top(nan), 0, 1, 1, 0), v(top(-inf), 0, 2, 2, 0)}, floor, true, versions{folded("x", top(-inf), 2, 2, 0)}},
		{"nan and nan", "x", versions{v(top(nan), 0, 1, 1, 0), v(top(nan), 0, 2, 2, 0)}, floor, true, versions{folded("x", top(nan), 2, 2, 0)}},
		{"noughts", "x", versions{v(top(below0), 0, 1, 1, 0), v(top(0), 0, 2, 2, 0)}, floor, true, versions{folded("x", top(0), 2, 2, 0)}},
		{"noughts", "x", versions{v(top(0), 0, 1, 1, 0), v(top(below0), 0, 2, 2, 0)}, floor, true, versions{folded("x", top(0), 2, 2, 0)}},
		{"infinity", "x", versions{v(top(inf), 0, 1, 1, 0), v(top(math.MaxFloat64), 0, 2, 2, 0)}, floor, true, versions{folded("x", top(inf), 2, 2, 0)}},
		{"the latest, not all", "x", versions{v(top(3), 0, 1, 4, 0), v(top(7), 0, 2, 3, 0)}, floor, false, versions{v(top(3), 0, 1, 4, 0), v(top(7), 0, 2, 3, 0)}},
		{"the earliest", "n", versions{v(low(3), 0, 1, 4, 0), v(low(-7), 0, 2, 3, 0), v(low(1), 254, 8, 1, 1)}, floor, true, versions{folded("n", low(-7), 8, 4, 1)}},
		{"nan and -infinity", "n", versions{v(low(nan), 0, 1, 1, 0), v(low(-inf), 0, 2, 2, 0)}, floor, true, versions{folded("n", low(nan), 2, 2, 0)}},
		{"noughts", "n", versions{v(low(below0), 0, 1, 1, 0), v(low(0), 0, 2, 2, 0)}, floor, true, versions{folded("n", low(below0), 2, 2, 0)}},
		{"the earliest, not all", "n", versions{v(low(3), 0, 1, 4, 0), v(low(-7), 0, 2, 3, 0)}, floor, false, versions{v(low(3), 0, 1, 4, 0), v(low(-7), 0, 2, 3, 0)}},
		{"a floor of noughts", "c", versions{v(add(1), 0, 1, 0, 0), v(add(2), 1, 1, 0, 0), v(add(4), 0, 1, 1, 0)}, api.Vec{0, 0}, true, versions{v(add(4), 0, 1, 1, 0), folded("c", add(3), 1, 0, 0)}},
		{"a floor of eight places", "c", versions{v(add(1), 7, 1, 9, 1, 1, 1, 1, 1, 1, 1), v(add(2), 0, 2, 8, 1, 1, 1, 1, 1, 1, 2), v(add(4), 7, 3, 1, 1, 1, 1, 1, 1, 1, 3)}, api.Vec{9, 1, 1, 1, 1, 1, 1, 2}, true, versions{v(add(4), 7, 3, 1, 1, 1, 1, 1, 1, 1, 3), folded("c", add(3), 2, 9, 1, 1, 1, 1, 1, 1, 2)}},
		{"the greatest floor", "c", versions{v(add(1), 0, 1, api.MaxTime-2), v(add(2), 0, 2, api.MaxTime-1), v(add(4), 0, 3, api.MaxTime)}, api.Vec{api.MaxTime - 1}, true, versions{v(add(4), 0, 3, api.MaxTime), folded("c", add(3), 2, api.MaxTime-1)}},
	} {
		c.hold(t)
	}
}

// P1702: what stays has the key that it had, which nobody looks at.
func TestDropLooksAtNoKeyOfVersions(t *testing.T) {
	l := versions{v(add(1), 0, 1, 4, 0), v(add(2), 0, 2, 5, 2), v(add(4), 0, 3, 6, 2)}
	for i, key := range []string{"", "r1", strings.Repeat("c", 99)} {
		l[i].Key = key
	}
	dropped{"all", "c9", l, api.Vec{5, 3}, true, versions{l[2], folded("c9", add(3), 2, 5, 2)}}.hold(t)
	dropped{"not all", "c9", l, api.Vec{5, 3}, false, versions{l[2], l[1], l[0]}}.hold(t)
	dropped{"one", "c9", l[:1], api.Vec{5, 3}, true, versions{l[0]}}.hold(t)
	for i := range l {
		l[i].Act = set(1)
	}
	dropped{"of r", "r9", l, api.Vec{5, 3}, true, versions{l[2], l[1]}}.hold(t)
}

// P1702: of a key that is none, or a floor that is not valid.
func TestDropOfNoKeyOrNoFloor(t *testing.T) {
	l := versions{v(set(1), 0, 3, 3), v(gone, 0, 2, 2), v(add(1), 0, 2, 1), v(add(2), 0, 1, 1), v(api.Act{Kind: 9}, 0, 1, 0)}
	valid := api.Vec{9}
	for _, key := range []string{"", "q", "R", "\x00", "\xff", "0c", " r", "r" + strings.Repeat("k", 64), "c" + strings.Repeat("k", 64), "x" + strings.Repeat("k", 1000)} {
		dropped{"a key that is none", key, l, valid, true, l}.hold(t)
		dropped{"a key that is none, not all", key, l, valid, false, l}.hold(t)
	}
	for _, key := range []string{"r", "t", "c", "x", "n"} {
		for _, floor := range []api.Vec{nil, {}, {-1}, {math.MinInt}, {api.MaxTime}, {math.MaxInt}, {9, -1}, {-1, 9}, {9, api.MaxTime}, make(api.Vec, 9), make(api.Vec, 300)} {
			l := l
			if len(floor) > 1 { // all of them are seen at it, but for a time below 0
				l = slices.Clone(l)
				for i := range l {
					l[i].At = append(slices.Clone(l[i].At), make([]int, len(floor)-1)...)
					l[i].At[len(floor)-1] = min(0, slices.Min(floor))
				}
			}
			dropped{"no floor", key, l, floor, true, l}.hold(t)
			dropped{"no floor, not all", key, l, floor, false, l}.hold(t)
			dropped{"no floor, and a vector like it", key, versions{v(gone, 0, 1, floor...)}, floor, true, versions{v(gone, 0, 1, floor...)}}.hold(t)
		}
	}
	twice := versions{l[4], l[0], l[4], l[0]}
	if got := fold.Drop("q", twice, valid, true); show(got) != show(versions{l[0], l[4]}) {
		t.Errorf("of a key that is none: %s", show(got))
	}
}

// Rule 3: what is handed in stays as it is, and what is answered is new memory.
func TestMemory(t *testing.T) {
	times := []int{5, 2, 71, 4, 0, 72, 6, 3, 73, 4, 0, 74}
	shared := api.Vec(times[9:11])
	whole := versions{v(add(1), 0, 1), v(add(2), 0, 2), v(add(4), 0, 3), v(add(8), 0, 4), v(add(16), 0, 5), v(add(99), 0, 9, 1, 1)}
	for i, at := range []api.Vec{times[0:2], times[3:5], times[6:8], shared, shared} {
		whole[i].At = at
	}
	floor := append(make(api.Vec, 0, 9), 5, 3)
	kept := fmt.Sprint(whole, times, floor[:9])
	calls := map[string]func() versions{
		"Order":                        func() versions { return fold.Order(whole[:5]) },
		"Drop of a sum":                func() versions { return fold.Drop("c", whole[:5], floor, true) },
		"Drop of a sum, not all":       func() versions { return fold.Drop("c", whole[:5], floor, false) },
		"Drop of a sum of one":         func() versions { return fold.Drop("c", whole[:1], floor, true) },
		"Drop of what does not fit":    func() versions { return fold.Drop("r", whole[:5], floor, true) },
		"Drop of what is not seen":     func() versions { return fold.Drop("r", whole[:5], api.Vec{0, 0}, true) },
		"Drop of a key that is none":   func() versions { return fold.Drop("q", whole[:5], floor, true) },
		"Drop of a floor that is none": func() versions { return fold.Drop("c", whole[:5], nil, true) },
	}
	for what, call := range calls {
		want := show(call())
		got := call()
		for i := range got {
			again := call()
			clear(again[i].At[:cap(again[i].At)])
			again[i] = got[i]
			if show(again) != want {
				t.Errorf("%s: version %d shares its vector's memory with another one", what, i)
			}
		}
		for i := range got {
			clear(got[i].At[:cap(got[i].At)])
		}
		clear(got[:cap(got)])
		if fmt.Sprint(whole, times, floor[:9]) != kept {
			t.Fatalf("%s: what was handed in is changed", what)
		}
	}
	fold.Read("c", whole[:5], floor)
	fold.Read("r", whole[:5], floor)
	if fmt.Sprint(whole, times, floor[:9]) != kept {
		t.Error("Read: what was handed in is changed")
	}
}

// P1701: many versions, also many without a place.
func TestMany(t *testing.T) {
	const n = 100000
	l := make(versions, n)
	for i := range l {
		l[i] = v(add(1), i%3, i*7919%n, i%5, i%7)
	}
	got := fold.Order(l)
	if len(got) != n || show(got[:1]) != show(fold.Order(got[:1])) {
		t.Errorf("Order: %d of them", len(got))
	}
	if x := fold.Read("c", l, api.Vec{4, 6}); x.Int != n {
		t.Errorf("Read: %d", x.Int)
	}
	if got := fold.Drop("c", l, api.Vec{4, 6}, true); show(got) != show(versions{folded("c", add(n), n-1, 4, 6)}) {
		t.Errorf("Drop: %.300s", show(got))
	}
}

// The document's examples.
func TestExamples(t *testing.T) {
	floor := api.Vec{9}
	dropped{"a sum", "c", versions{v(add(5), 0, 1, 1), v(add(7), 0, 2, 2)}, floor, true, versions{folded("c", add(12), 2, 2)}}.hold(t)
	cleared := v(gone, 0, 2, 2)
	dropped{"cleared", "r", versions{v(set(1), 0, 1, 1), cleared}, floor, true, nil}.hold(t)
	dropped{"cleared, not all", "r", versions{v(set(1), 0, 1, 1), cleared}, floor, false, versions{cleared}}.hold(t)
}
