package op_test

import (
	"math"
	"strings"
	"testing"

	"bedrock/api"
	"bedrock/op"
)

var (
	nan    = math.NaN()
	inf    = math.Inf(1)
	minus  = math.Inf(-1)
	below0 = math.Copysign(0, -1)
	tiny   = math.SmallestNonzeroFloat64
)

var clear = api.Act{Kind: api.ActClear}

func set(f float64) api.Act { return api.Act{Kind: api.ActSet, Num: f} }

func text(s string) api.Act { return api.Act{Kind: api.ActSet, Text: s} }

func add(n int) api.Act { return api.Act{Kind: api.ActAdd, Int: n} }

func top(f float64) api.Act { return api.Act{Kind: api.ActMax, Num: f} }

func low(f float64) api.Act { return api.Act{Kind: api.ActMin, Num: f} }

// alike tells whether two numbers are one by the document, asked without the program.
func alike(a, b float64) bool {
	return math.Float64bits(a) == math.Float64bits(b) || a != a && b != b
}

// sameAct holds two acts against each other, to the last field.
func sameAct(a, b api.Act) bool {
	return a.Kind == b.Kind && alike(a.Num, b.Num) && a.Int == b.Int && a.Text == b.Text
}

// sameValue holds two values against each other, to the last field.
func sameValue(a, b api.Value) bool {
	return a.There == b.There && alike(a.Num, b.Num) && a.Int == b.Int && a.Text == b.Text
}

var (
	kinds  = []int{api.ActSet, api.ActAdd, api.ActMax, api.ActMin, api.ActClear, -1, 5, 9, 256, 257, 260, -256, math.MaxInt, math.MinInt}
	nums   = []float64{0, below0, nan, -nan, 1, -1, 1.5, tiny, -tiny, inf, minus, math.MaxFloat64}
	ints   = []int{0, 1, -1, 5, math.MaxInt, math.MinInt}
	texts  = []string{"", "a", "\x00", "n", "\xff\xfe", strings.Repeat("x", 1023), strings.Repeat("x", 1024), strings.Repeat("x", 1025), strings.Repeat("\x00", 5000)}
	keys   = []string{"r", "r1", "r\x00", "r" + strings.Repeat("k", 63), "t", "tt", "t\xff", "t" + strings.Repeat("k", 63), "c", "c1", "c" + strings.Repeat("r", 63), "x", "xc", "x" + strings.Repeat("\x00", 63), "n", "n0", "n" + strings.Repeat("n", 63)}
	noKeys = []string{"", "q", "q1", "R", "T", "\x00", "\x00r", " c", "\xff", "0", "r" + strings.Repeat("k", 64), "t" + strings.Repeat("k", 64), "c" + strings.Repeat("r", 64), "x" + strings.Repeat("\x00", 64), "n" + strings.Repeat("n", 1000)}
)

// acts are all of these fields together, few of them right.
func acts() []api.Act {
	var l []api.Act
	for _, kind := range kinds {
		for _, f := range nums {
			for _, n := range ints {
				for _, s := range texts {
					l = append(l, api.Act{Kind: kind, Num: f, Int: n, Text: s})
				}
			}
		}
	}
	return l
}

// right tells by the document's words whether an act is right.
func right(a api.Act) bool {
	num, whole, text := math.Float64bits(a.Num) != 0, a.Int != 0, len(a.Text) != 0
	switch {
	case len(a.Text) > 1024:
		return false
	case a.Kind == 0:
		return !whole && !(num && text)
	case a.Kind == 1:
		return !num && !text
	case a.Kind == 2, a.Kind == 3:
		return !whole && !text
	case a.Kind == 4:
		return !num && !whole && !text
	}
	return false
}

// rights are those of acts that are right.
func rights() []api.Act {
	var l []api.Act
	for _, a := range acts() {
		if right(a) {
			l = append(l, a)
		}
	}
	return l
}

// fits tells by the document's words whether an act fits a key.
func fits(key string, a api.Act) bool {
	if len(key) < 1 || len(key) > 64 || !right(a) {
		return false
	}
	switch key[:1] {
	case "r":
		return a.Kind == 0 && len(a.Text) == 0 || a.Kind == 4
	case "t":
		return a.Kind == 0 && math.Float64bits(a.Num) == 0 || a.Kind == 4
	case "c":
		return a.Kind == 1
	case "x":
		return a.Kind == 2
	case "n":
		return a.Kind == 3
	}
	return false
}

// P601
func TestFits(t *testing.T) {
	long := strings.Repeat("x", 1025)
	for _, c := range []struct {
		key  string
		a    api.Act
		fits bool
	}{
		{"r1", set(5), true},
		{"r", set(0), true},
		{"r", set(below0), true},
		{"r", set(nan), true},
		{"r", clear, true},
		{"r", text("a"), false},
		{"r", add(1), false},
		{"r", top(1), false},
		{"r", low(1), false},
		{"r", api.Act{Num: 1, Int: 1}, false},
		{"r", api.Act{Int: 1}, false},
		{"r", api.Act{Num: 1, Text: "a"}, false},
		{"r", api.Act{Kind: 4, Num: 1}, false},
		{"r", api.Act{Kind: 4, Num: below0}, false},
		{"r", api.Act{Kind: 4, Int: 1}, false},
		{"r", api.Act{Kind: 4, Text: "a"}, false},
		{"r", api.Act{Kind: 5}, false},
		{"r", api.Act{Kind: -1}, false},
		{"t", text(""), true},
		{"t", text("a"), true},
		{"t", text(long[1:]), true},
		{"t", text(long), false},
		{"t", clear, true},
		{"t", set(5), false},
		{"t", set(below0), false},
		{"t", set(nan), false},
		{"t", api.Act{Num: below0, Text: "a"}, false},
		{"t", api.Act{Num: nan, Text: "a"}, false},
		{"c1", set(5), false},
		{"c", add(5), true},
		{"c", add(0), true},
		{"c", add(math.MinInt), true},
		{"c", clear, false},
		{"c", api.Act{Kind: 1, Num: below0}, false},
		{"c", api.Act{Kind: 1, Text: "a"}, false},
		{"x", top(0), true},
		{"x", top(nan), true},
		{"x", low(1), false},
		{"x", clear, false},
		{"x", api.Act{Kind: 2, Int: 1}, false},
		{"x", api.Act{Kind: 2, Text: "a"}, false},
		{"n", low(below0), true},
		{"n", low(minus), true},
		{"n", top(1), false},
		{"n", clear, false},
		{"", set(5), false},
		{"q", set(5), false},
		{"\x00r", set(5), false},
		{"r" + strings.Repeat("k", 63), set(5), true},
		{"r" + strings.Repeat("k", 64), set(5), false},
		{"c" + strings.Repeat("k", 64), add(5), false},
	} {
		if f := op.Fits(c.key, c.a); f != c.fits {
			t.Errorf("Fits(%q, %.60v): %t", c.key, c.a, f)
		}
	}
}

// P601: of all fields together.
func TestFitsLooksAtEachField(t *testing.T) {
	for _, a := range acts() {
		for _, l := range [][]string{keys, noKeys} {
			for _, key := range l {
				if f := op.Fits(key, a); f != fits(key, a) {
					t.Fatalf("Fits(%q, %.60v): %t", key, a, f)
				}
			}
		}
	}
}

// P601: no other first byte takes anything.
func TestFitsOfEachFirstByte(t *testing.T) {
	for first := range 256 {
		key := string([]byte{byte(first)})
		for _, a := range []api.Act{set(0), set(5), text("a"), add(5), top(5), low(5), clear} {
			if f := op.Fits(key, a); f != fits(key, a) {
				t.Errorf("Fits(%q, %v): %t", key, a, f)
			}
		}
	}
}

// P605
func TestSame(t *testing.T) {
	l := append(rights(), api.Act{Kind: -1}, api.Act{Kind: 256, Num: 1, Int: 2, Text: "a"}, api.Act{Kind: 256, Num: 1, Int: 2, Text: "b"}, api.Act{Kind: 256, Num: 1, Int: 3, Text: "a"}, api.Act{Kind: 256, Num: nan, Int: 2, Text: "a"}, api.Act{Kind: 257, Num: 1, Int: 2, Text: "a"})
	for _, a := range l {
		for _, b := range l {
			if same := op.Same(a, b); same != sameAct(a, b) {
				t.Errorf("Same(%.60v, %.60v): %t", a, b, same)
			}
		}
	}
}

// P605
func TestSameValue(t *testing.T) {
	var l []api.Value
	for _, there := range []bool{false, true} {
		for _, f := range nums {
			for _, n := range []int{0, 5, math.MinInt} {
				for _, s := range []string{"", "a", "b"} {
					l = append(l, api.Value{There: there, Num: f, Int: n, Text: s})
				}
			}
		}
	}
	for _, a := range l {
		for _, b := range l {
			if same := op.SameValue(a, b); same != sameValue(a, b) {
				t.Errorf("SameValue(%v, %v): %t", a, b, same)
			}
		}
	}
}

// P605
func TestText(t *testing.T) {
	all := api.Value{There: true, Num: 1.5, Int: -7, Text: "a\n\"\xff"}
	gone := all
	gone.There = false
	for _, c := range []struct {
		key  string
		v    api.Value
		text string
	}{
		{"r", all, "3p-1"},
		{"r1", all, "3p-1"},
		{"x", all, "3p-1"},
		{"n", all, "3p-1"},
		{"c", all, "-7"},
		{"t", all, `"a\x0a\"\xff"`},
		{"r", gone, "none"},
		{"x", gone, "none"},
		{"n", gone, "none"},
		{"c", gone, "none"},
		{"t", gone, "none"},
		{"q", gone, "none"},
		{"", gone, "none"},
		{"q", all, "none"},
		{"", all, "none"},
		{"\x00r", all, "none"},
		{"R", all, "none"},
		{"r" + strings.Repeat("k", 63), all, "3p-1"},
		{"r" + strings.Repeat("k", 64), all, "none"},
		{"t" + strings.Repeat("k", 64), all, "none"},
		{"r", api.Value{There: true}, "0"},
		{"r", api.Value{There: true, Num: below0}, "-0"},
		{"x", api.Value{There: true, Num: minus}, "-inf"},
		{"n", api.Value{There: true, Num: nan}, "nan"},
		{"c", api.Value{There: true}, "0"},
		{"c", api.Value{There: true, Int: math.MinInt}, "-9223372036854775808"},
		{"t", api.Value{There: true}, `""`},
	} {
		if s := op.Text(c.key, c.v); s != c.text {
			t.Errorf("Text(%q, %v): %q, not %q", c.key, c.v, s, c.text)
		}
	}
	for first := range 256 {
		key := string([]byte{byte(first)})
		if s := op.Text(key, all); (s == "none") == strings.Contains("rxnct", key) {
			t.Errorf("Text(%q, %v): %q", key, all, s)
		}
	}
}
