package pick_test

import (
	"fmt"
	"math"
	"slices"
	"strings"
	"testing"

	"bedrock/api"
	"bedrock/pick"
	"bedrock/real"
)

var (
	inf   = math.Inf(1)
	nan   = math.NaN()
	minus = math.Copysign(0, -1)
)

// file is one with all that nobody asks for.
func file(level, number, bytes int, first, last string) api.File {
	return api.File{Level: level, Number: number, Count: 3, Bytes: bytes, First: first, Last: last}
}

// sized is a file of which only the bytes count.
func sized(level, bytes int) api.File { return file(level, 1, bytes, "a", "b") }

// many is so many files of a level, with the numbers from one on.
func many(n, level, from int) []api.File {
	var l []api.File
	for i := range n {
		l = append(l, file(level, from+i, 1, "k", "l"))
	}
	return l
}

// texts tells scores so that nan, the infinities and signed zero are told apart.
func texts(l []float64) string {
	var s []string
	for _, f := range l {
		s = append(s, real.Text(f))
	}
	return strings.Join(s, " ")
}

// P1501
func TestBytes(t *testing.T) {
	l := []api.File{sized(1, 10), sized(2, 5), sized(1, 30), sized(0, 7), sized(-1, 2), sized(6, 1), sized(9, 3), sized(3, 0)}
	for _, c := range []struct {
		what  string
		l     []api.File
		level int
		want  int
	}{
		{"none", nil, 0, 0},
		{"none", []api.File{}, 1, 0},
		{"level 0", l, 0, 7},
		{"several", l, 1, 40},
		{"one", l, 2, 5},
		{"of nothing", l, 3, 0},
		{"no file", l, 4, 0},
		{"the last level", l, api.MaxLevel, 1},
		{"past the last level", l, 9, 3},
		{"below level 0", l, -1, 2},
		{"the least level", l, math.MinInt, 0},
		{"the greatest level", l, math.MaxInt, 0},
		{"the most", []api.File{sized(1, api.MaxNumber)}, 1, api.MaxNumber},
		{"just the most", []api.File{sized(1, api.MaxNumber-1), sized(1, 1)}, 1, api.MaxNumber},
		{"just not the most", []api.File{sized(1, api.MaxNumber-2), sized(1, 1)}, 1, api.MaxNumber - 1},
		{"more than the most", []api.File{sized(1, api.MaxNumber+1)}, 1, api.MaxNumber},
		{"the most, and more", []api.File{sized(1, api.MaxNumber), sized(1, 1)}, 1, api.MaxNumber},
		{"past all ints", []api.File{sized(1, 1<<62), sized(1, 1<<62), sized(1, 1<<62)}, 1, api.MaxNumber},
		{"the greatest int", []api.File{sized(1, 1), sized(1, math.MaxInt)}, 1, api.MaxNumber},
		{"below 0", []api.File{sized(1, -1)}, 1, 0},
		{"below 0 among others", []api.File{sized(1, -8), sized(1, 5), sized(1, -1)}, 1, 5},
		{"the least int", []api.File{sized(1, math.MinInt), sized(1, math.MinInt), sized(1, 4)}, 1, 4},
		{"below 0 behind the most", []api.File{sized(1, 1<<40), sized(1, -1<<40)}, 1, api.MaxNumber},
	} {
		if n := pick.Bytes(c.l, c.level); n != c.want {
			t.Errorf("%s: %d, not %d", c.what, n, c.want)
		}
	}
}

// P1501
func TestScores(t *testing.T) {
	two := []api.File{sized(1, 10), sized(1, 30), sized(2, 60), sized(6, 7), sized(3, -8), sized(-1, 9)}
	all := []api.File{sized(0, 1), sized(1, 1), sized(2, 1), sized(3, 1), sized(4, 1), sized(5, 1), sized(6, 1)}
	most := []api.File{sized(1, math.MaxInt), sized(2, api.MaxNumber), sized(2, 1), sized(5, 1<<40)}
	for _, c := range []struct {
		what        string
		l           []api.File
		base, ratio float64
		want        string
	}{
		{"none", nil, 1, 1, "0 0 0 0 0 0"},
		{"none", []api.File{}, -1, 1, "0 -0 -0 -0 -0 -0"},
		{"none by signs in turn", nil, 1, -1, "0 0 -0 0 -0 0"},
		{"none by nothing", nil, 0, 1, "0 nan nan nan nan nan"},
		{"one of level 0", many(1, 0, 1), 1, 1, "1p-2 0 0 0 0 0"},
		{"four of level 0", many(4, 0, 1), 1, 1, "1 0 0 0 0 0"},
		{"five of level 0", many(5, 0, 1), 0, 10, "5p-2 nan nan nan nan nan"},
		{"level 0 asks for nothing else", many(6, 0, 1), nan, nan, "3p-1 nan nan nan nan nan"},
		{"bytes of level 0 do not count", []api.File{sized(0, 1000)}, 1, 1, "1p-2 0 0 0 0 0"},
		{"each by the one ahead", all, 1, 2, "1p-2 1 1p-1 1p-2 1p-3 1p-4"},
		{"each by the one ahead, less", all, 1, 0.5, "1p-2 1 2 4 8 16"},
		{"base and ratio", two, 20, 2, "0 2 3p-1 0 0 0"},
		{"base is nothing", two, 0, 2, "0 inf inf nan nan nan"},
		{"base is -0", two, minus, 2, "0 -inf -inf nan nan nan"},
		{"base is below 0", two, -20, 2, "0 -2 -3p-1 -0 -0 -0"},
		{"base is infinite", two, inf, 2, "0 0 0 0 0 0"},
		{"base is infinite, ratio nothing", two, inf, 0, "0 0 nan nan nan nan"},
		{"base is -inf", two, -inf, -2, "0 -0 0 -0 0 -0"},
		{"base is nan", two, nan, 2, "0 nan nan nan nan nan"},
		{"ratio is nothing", all, 1, 0, "1p-2 1 inf inf inf inf"},
		{"ratio is -0", all, 1, minus, "1p-2 1 -inf inf -inf inf"},
		{"ratio is infinite", all, 1, inf, "1p-2 1 0 0 0 0"},
		{"ratio is -inf", all, 1, -inf, "1p-2 1 -0 0 -0 0"},
		{"ratio is nan", all, 1, nan, "1p-2 1 nan nan nan nan"},
		{"ratio is below 0", all, 1, -2, "1p-2 1 -1p-1 1p-2 -1p-3 1p-4"},
		{"base is nothing, ratio infinite", all, 0, inf, "1p-2 inf nan nan nan nan"},
		{"past the greatest number", all, 0x1p1000, 0x1p20, "1p-2 1p-1000 1p-1020 0 0 0"},
		{"below the least number", all, 0x1p-1000, 0x1p-70, "1p-2 1p1000 inf inf inf inf"},
		{"the most bytes", most, 1, 1, "0 2147483647 2147483647 0 0 2147483647"},
	} {
		if s := texts(pick.Scores(c.l, c.base, c.ratio)); s != c.want {
			t.Errorf("%s: %s, not %s", c.what, s, c.want)
		}
	}
}

// P1501: as many scores as there are levels with one below them.
func TestScoresLevels(t *testing.T) {
	for _, l := range [][]api.File{nil, {sized(6, 1), sized(7, 1)}, {sized(-1, 1)}} {
		if s := texts(pick.Scores(l, 4, 1)); s != "0 0 0 0 0 0" {
			t.Errorf("%v: %s", l, s)
		}
	}
}

// P1502
func TestOverlap(t *testing.T) {
	l := []api.File{
		file(1, 8, 1, "m", "p"), file(1, 3, 1, "a", "c"), file(1, 9, 1, "d", "d"),
		file(2, 4, 1, "c", "n"), file(0, 7, 1, "a", "z"), file(0, 6, 1, "b", "c"), file(0, 6, 1, "b", "c"),
		file(3, 1, 1, "k", "h"), file(-1, -5, 1, "", "\xff"), file(4, 2, 1, "a\x00", "a\xff"), file(math.MaxInt, math.MinInt, 1, "", ""),
	}
	for _, c := range []struct {
		what        string
		level       int
		first, last string
		want        string
	}{
		{"all", 1, "", "z", "[8 3 9]"},
		{"all, and just so far", 1, "a", "p", "[8 3 9]"},
		{"one key of two files", 1, "c", "d", "[3 9]"},
		{"in one file", 1, "b", "b", "[3]"},
		{"its first key", 1, "", "a", "[3]"},
		{"its last key", 1, "c", "cc", "[3]"},
		{"just below its first key", 1, "e", "lzzz", "[]"},
		{"just above its last key", 1, "c\x00", "c\xff", "[]"},
		{"ahead of all", 1, "", "Z", "[]"},
		{"behind all", 1, "p\x00", "z", "[]"},
		{"nothing", 1, "", "", "[]"},
		{"around one of one key", 1, "c1", "e", "[9]"},
		{"another level", 2, "a", "z", "[4]"},
		{"level 0, with one twice", 0, "c", "c", "[7 6 6]"},
		{"level 0", 0, "x", "y", "[7]"},
		{"no such level", 5, "", "\xff", "[]"},
		{"below level 0", -1, "a", "b", "[-5]"},
		{"bytes above all letters", -1, "\xff", "\xff\xff", "[-5]"},
		{"bytes past those", -1, "\xff\x00", "\xff\xff", "[]"},
		{"the greatest level", math.MaxInt, "", "", fmt.Sprint([]int{math.MinInt})},
		{"a range the wrong way round", 1, "o", "n", "[8]"},
		{"such a range that is between", 1, "d", "c", "[]"},
		{"a file the wrong way round", 3, "i", "j", "[]"},
		{"a range around such a file", 3, "h", "k", "[1]"},
		{"a range that has its last key alone", 3, "h", "j", "[]"},
		{"a range that has its first key alone", 3, "i", "k", "[]"},
		{"bytes as numbers", 4, "a\x80", "a\x81", "[2]"},
		{"who ends first is the lesser one", 4, "", "a", "[]"},
	} {
		if got := fmt.Sprint(pick.Overlap(l, c.level, c.first, c.last)); got != c.want {
			t.Errorf("%s: %s, not %s", c.what, got, c.want)
		}
	}
	if got := pick.Overlap(nil, 0, "", "z"); len(got) != 0 {
		t.Errorf("of no files: %v", got)
	}
}

// picked tells an answer of Pick in few words.
func picked(level int, l []int, ok bool) string { return fmt.Sprint(level, l, ok) }

const none = "0 [] false"

// P1503
func TestPick(t *testing.T) {
	at0 := []api.File{file(0, 4, 1, "c", "d"), file(0, 2, 1, "e", "f"), file(0, 3, 1, "b", "c"), file(0, 1, 1, "d", "d")}
	at1 := []api.File{file(1, 9, 1, "a", "a"), file(1, 8, 1, "f", "g"), file(1, 7, 1, "b", "b"), file(1, 6, 1, "g\x00", "z")}
	one := []api.File{file(1, 5, 10, "m", "p"), file(1, 3, 10, "a", "c"), file(2, 6, 5, "c", "d"), file(2, 4, 5, "q", "r")}
	five := []api.File{file(5, 8, 3, "a", "c"), file(6, 1, 3, "c", "d"), file(6, 7, 90, "a", "a"), file(6, 9, 3, "d", "e")}
	both := slices.Concat(at0, at1, one)
	mixed := []api.File{file(2, 1, 9, "a", "b"), file(1, 2, 1, "x", "y"), file(0, 5, 1, "a", "y"), file(1, 3, 1, "a", "b"), file(0, 6, 1, "b", "x"), file(0, 7, 1, "c", "c"), file(0, 8, 1, "d", "d")}
	for _, c := range []struct {
		what        string
		l           []api.File
		base, ratio float64
		want        string
	}{
		{"none", nil, 0, 0, none},
		{"none", []api.File{}, 1, 1, none},
		{"infinite", []api.File{file(1, 1, 10, "a", "b")}, 0, 10, "1 [1] true"},
		{"below infinite", []api.File{file(1, 1, 10, "a", "b")}, minus, 10, none},
		{"no file by nothing", []api.File{file(6, 1, 9, "a", "b")}, minus, -inf, none},
		{"no file by less than nothing", []api.File{file(0, 1, 9, "a", "b")}, -5e-324, 1, none},
		{"nothing by nothing", []api.File{file(1, 1, 0, "a", "b")}, 0, 10, none},
		{"below 0 by nothing", []api.File{file(1, 1, -9, "a", "b")}, 0, 10, none},
		{"level 0 alone", at0, nan, nan, "0 [4 2 3 1] true"},
		{"level 0 and what it meets", slices.Concat(at0, at1), nan, nan, "0 [4 2 3 1 8 7] true"},
		{"level 0, below full", slices.Concat(at0[:3], at1), 100, 1, none},
		{"level 0 among others", mixed, 100, 1, "0 [5 6 7 8 2 3] true"},
		{"just full", one, 20, 1, "1 [3 6] true"},
		{"just not full", one, math.Nextafter(20, inf), 1, none},
		{"all infinite: the first one", one, 0, 1, "1 [3 6] true"},
		{"all infinite, but level 0", both, 0, 1, "1 [3 6] true"},
		{"as great: the first one", one, 20, 0.5, "1 [3 6] true"},
		{"as great as level 0", slices.Concat(one, at0), 20, 1, "0 [4 2 3 1 3] true"},
		{"greater than level 0", slices.Concat(one, at0), 10, 1, "1 [3 6] true"},
		{"less than level 0", slices.Concat(one, at0, many(1, 0, 20)), 17, 1, "0 [4 2 3 1 20 3] true"},
		{"a lower level is greater", one, 20, 0.1, "2 [4] true"},
		{"a lower level alone is full", one, 21, 0.1, "2 [4] true"},
		{"below 0 twice", one, -1, -1, "2 [4] true"},
		{"infinite base", one, inf, 1, none},
		{"infinite base, ratio nothing", one, inf, 0, none},
		{"nan behind level 1", one, 20, nan, "1 [3 6] true"},
		{"nan ahead of level 2", []api.File{file(1, 1, 0, "a", "b"), file(2, 2, 1, "a", "b")}, 0, 1, "2 [2] true"},
		{"ratio nothing", one, 30, 0, "2 [4] true"},
		{"level 5 into the last one", five, 1, 1, "5 [8 1 7] true"},
		{"the last one goes nowhere", five[1:], 1, 1, none},
		{"past the last one", []api.File{file(7, 1, 99, "a", "b"), file(-1, 2, 99, "a", "b")}, 1, 1, none},
		{"the least number of several", []api.File{file(1, 5, 9, "a", "a"), file(1, -7, 9, "c", "c"), file(1, 4, 9, "b", "b"), file(2, 1, 1, "c", "d"), file(2, 3, 1, "a", "b")}, 1, 100, "1 [-7 1] true"},
		{"numbers far apart", []api.File{file(1, math.MaxInt, 9, "a", "a"), file(1, math.MinInt, 9, "c", "c"), file(2, 1, 1, "c", "d"), file(2, 3, 1, "a", "b")}, 1, 100, fmt.Sprintf("1 [%d 1] true", math.MinInt)},
		{"of two least numbers the first", []api.File{file(1, 5, 9, "a", "a"), file(1, 4, 9, "c", "c"), file(1, 4, 9, "b", "b"), file(2, 1, 1, "c", "d"), file(2, 3, 1, "a", "b")}, 1, 100, "1 [4 1] true"},
		{"between what it meets", []api.File{file(0, 1, 1, "a", "b"), file(0, 2, 1, "y", "z"), file(0, 3, 1, "a", "b"), file(0, 4, 1, "a", "b"), file(1, 5, 1, "k", "l"), file(1, 6, 1, "z\x00", "zz")}, 9, 9, "0 [1 2 3 4 5] true"},
		{"the wrong way round", []api.File{file(1, 1, 9, "h", "g"), file(2, 2, 1, "g", "h"), file(2, 3, 1, "a", "g"), file(2, 4, 1, "h", "z")}, 1, 9, "1 [1 2] true"},
		{"the wrong way round at level 0", []api.File{file(0, 1, 9, "h", "g"), file(0, 2, 1, "k", "i"), file(0, 3, 9, "h", "g"), file(0, 4, 9, "h", "g"), file(1, 5, 1, "a", "g"), file(1, 6, 1, "h", "h"), file(1, 7, 1, "j", "z")}, 1000, 9, "0 [1 2 3 4 6] true"},
		{"keys without bytes", []api.File{file(1, 1, 9, "", ""), file(2, 2, 1, "", ""), file(2, 3, 1, "\x00", "a")}, 1, 9, "1 [1 2] true"},
	} {
		if got := picked(pick.Pick(c.l, c.base, c.ratio)); got != c.want {
			t.Errorf("%s: %s, not %s", c.what, got, c.want)
		}
	}
}

// P1503: the reach of level 0 does not hang on the order of its files.
func TestPickReach(t *testing.T) {
	l := []api.File{file(0, 1, 1, "d", "e"), file(0, 2, 1, "b", "c"), file(0, 3, 1, "f", "g"), file(0, 4, 1, "c", "f")}
	below := []api.File{file(1, 5, 1, "a", "azz"), file(1, 6, 1, "b", "b"), file(1, 7, 1, "g", "k"), file(1, 8, 1, "l", "m")}
	for i := range len(l) {
		turned := slices.Concat(l[i:], l[:i], below)
		_, got, ok := pick.Pick(turned, 100, 1)
		if !ok || len(got) != 6 || got[0] != l[i].Number || got[4] != 6 || got[5] != 7 {
			t.Errorf("from the file %d on: %v, %v", l[i].Number, got, ok)
		}
	}
}

// Rules 3 and 4: what is handed in stays as it is, and what is answered is new memory.
func TestMemory(t *testing.T) {
	l := append(many(4, 0, 1), many(3, 1, 5)...)
	l = append(l, file(2, 9, 1, "a", "z"), file(2, 9, 1, "a", "z"))
	room := l[:len(l)-1]
	kept := slices.Clone(l)
	for range 2 {
		s := pick.Scores(room, 1, 1)
		level, p, ok := pick.Pick(room, 4, 1)
		o, q := pick.Overlap(room, 1, "a", "z"), pick.Overlap(room, 1, "a", "z")
		if texts(s) != "1 3 1 0 0 0" || picked(level, p, ok) != "0 [1 2 3 4 5 6 7] true" || fmt.Sprint(o, q) != "[5 6 7] [5 6 7]" || pick.Bytes(room, 1) != 3 {
			t.Errorf("%v, %v, %v, %v", s, p, o, q)
		}
		if !slices.Equal(l, kept) {
			t.Fatal("what was handed in is changed")
		}
		clear(s)
		clear(o[:cap(o)])
		clear(p[:cap(p)])
		if q[0] != 5 || q[2] != 7 {
			t.Error("two answers share memory")
		}
	}
}

// The document's examples.
func TestExamples(t *testing.T) {
	if s := texts(pick.Scores(many(5, 0, 1), 0, 10)); s != "5p-2 nan nan nan nan nan" {
		t.Error("Scores:", s)
	}
	if got := picked(pick.Pick([]api.File{sized(1, 10)}, 0, 10)); got != "1 [1] true" {
		t.Error("infinite:", got)
	}
	if got := picked(pick.Pick(many(4, 0, 1), nan, nan)); got != "0 [1 2 3 4] true" {
		t.Error("nan:", got)
	}
}
