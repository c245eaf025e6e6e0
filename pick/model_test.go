package pick_test

import (
	"fmt"
	"math"
	"math/big"
	"math/rand"
	"slices"
	"testing"

	"bedrock/api"
	"bedrock/manifest"
	"bedrock/pick"
	"bedrock/real"
)

// bytesOf tells a level's bytes by the document's words, in unbounded numbers.
func bytesOf(l []api.File, level int) int {
	sum := new(big.Int)
	for _, f := range l {
		if f.Level == level && f.Bytes > 0 {
			sum.Add(sum, big.NewInt(int64(f.Bytes)))
		}
	}
	if sum.Cmp(big.NewInt(api.MaxNumber)) > 0 {
		return api.MaxNumber
	}
	return int(sum.Int64())
}

// scoreOf tells one level's score by the document's words.
func scoreOf(l []api.File, level int, base, ratio float64) float64 {
	if level == 0 {
		n := 0.0
		for _, f := range l {
			if f.Level == 0 {
				n++
			}
		}
		return n / 4
	}
	var by func(level int) float64
	by = func(level int) float64 {
		if level == 1 {
			return base
		}
		return by(level-1) * ratio
	}
	return float64(bytesOf(l, level)) / by(level)
}

// meets tells which files of a level have a key of a range.
func meets(l []api.File, level int, first, last string) []int {
	var out []int
	for _, f := range l {
		if f.Level == level && f.First <= last && f.Last >= first {
			out = append(out, f.Number)
		}
	}
	return out
}

// picks tells what is picked by the document's words.
func picks(l []api.File, base, ratio float64) (int, []int, bool) {
	at := -1
	for level := api.MaxLevel - 1; level >= 0; level-- {
		s := scoreOf(l, level, base, ratio)
		if s >= 1 && (at < 0 || s >= scoreOf(l, at, base, ratio)) {
			at = level
		}
	}
	if at < 0 {
		return 0, nil, false
	}
	var upper []api.File
	for _, f := range l {
		switch {
		case f.Level != at:
		case at == 0 || len(upper) == 0:
			upper = append(upper, f)
		case f.Number < upper[0].Number:
			upper[0] = f
		}
	}
	var out []int
	var firsts, lasts []string
	for _, f := range upper {
		out, firsts, lasts = append(out, f.Number), append(firsts, f.First), append(lasts, f.Last)
	}
	return at, append(out, meets(l, at+1, slices.Min(firsts), slices.Max(lasts))...), true
}

// holds holds all calls against the document's words.
func holds(t *testing.T, l []api.File, base, ratio float64, level int, first, last string) {
	t.Helper()
	kept := slices.Clone(l)
	scores := pick.Scores(l, base, ratio)
	if len(scores) != 6 {
		t.Fatalf("%d scores of %v", len(scores), l)
	}
	for i, s := range scores {
		if w := scoreOf(l, i, base, ratio); !real.Same(s, w) {
			t.Fatalf("%v, %v, %v: %d: %v, not %v", l, base, ratio, i, s, w)
		}
	}
	if n, w := pick.Bytes(l, level), bytesOf(l, level); n != w {
		t.Fatalf("%v: %d: %d bytes, not %d", l, level, n, w)
	}
	if o, w := pick.Overlap(l, level, first, last), meets(l, level, first, last); !slices.Equal(o, w) {
		t.Fatalf("%v, %d, %q, %q: %v, not %v", l, level, first, last, o, w)
	}
	got, want := picked(pick.Pick(l, base, ratio)), picked(picks(l, base, ratio))
	if got != want {
		t.Fatalf("%v, %v, %v: %s, not %s", l, base, ratio, got, want)
	}
	if !slices.Equal(l, kept) {
		t.Fatalf("%v is changed to %v", kept, l)
	}
}

// edge tells an edge of float64, or a number of few that come often.
func edge(r *rand.Rand) float64 {
	edges := []float64{nan, inf, -inf, 0, minus, math.MaxFloat64, math.SmallestNonzeroFloat64, 0x1p-1022, -math.MaxFloat64, 0x1p-300, 0x1p300}
	switch r.Intn(4) {
	case 0:
		return edges[r.Intn(len(edges))]
	case 1:
		return math.Float64frombits(r.Uint64())
	case 2:
		return float64(r.Intn(60) - 9)
	}
	return float64(1+r.Intn(40)) / float64(1+r.Intn(8))
}

func text(r *rand.Rand) string {
	b := make([]byte, r.Intn(3))
	for i := range b {
		b[i] = "\x00az\xff"[r.Intn(4)]
	}
	return string(b)
}

// anyFile is a file, or what is none.
func anyFile(r *rand.Rand) api.File {
	f := file(r.Intn(9)-1, r.Intn(9)-2, r.Intn(40)-4, text(r), text(r))
	if r.Intn(2) == 0 && f.First > f.Last {
		f.First, f.Last = f.Last, f.First
	}
	switch r.Intn(30) {
	case 0:
		f.Bytes = api.MaxNumber - r.Intn(40)
	case 1:
		f.Bytes = int(r.Uint64())
	case 2:
		f.Number = int(r.Uint64())
	}
	return f
}

// P1501, P1502, P1503: random files, also what no manifest says.
func TestModel(t *testing.T) {
	r := rand.New(rand.NewSource(15))
	for range 60000 {
		var l []api.File
		levels := 1 + r.Intn(9)
		for range r.Intn(20) {
			f := anyFile(r)
			f.Level = min(f.Level, levels)
			l = append(l, f)
		}
		holds(t, l, edge(r), edge(r), r.Intn(9)-1, text(r), text(r))
	}
}

// filled tells what a manifest may say: at random many files at each level.
func filled(t *testing.T, r *rand.Rand) api.State {
	s := api.State{}
	for range 10 + r.Intn(50) {
		a, b := r.Intn(200), r.Intn(12)
		level := r.Intn(api.MaxLevel + 1)
		f := api.File{Level: level, Number: max(s.Next, 1) + r.Intn(3), Count: 1, Bytes: r.Intn(50), First: key(a), Last: key(a + b)}
		next, e := manifest.Apply(s, api.Edit{Add: []api.File{f}})
		if e == api.OK {
			s = next
		} else if e != api.ErrOrder {
			t.Fatal(e)
		}
	}
	r.Shuffle(len(s.Files), func(i, j int) {
		if s.Files[i].Level == s.Files[j].Level {
			s.Files[i], s.Files[j] = s.Files[j], s.Files[i]
		}
	})
	return s
}

func key(n int) string { return fmt.Sprintf("%04d", n) }

// together tells files into which those of some numbers are laid together: one that reaches as far as all of them, or two side by side.
func together(s api.State, numbers []int, level int, r *rand.Rand) []api.File {
	least, greatest := "9999", ""
	for _, f := range s.Files {
		if slices.Contains(numbers, f.Number) {
			least, greatest = min(least, f.First), max(greatest, f.Last)
		}
	}
	one := api.File{Level: level, Number: s.Next, Count: 1, First: least, Last: greatest}
	if least == greatest || r.Intn(2) == 0 {
		return []api.File{one}
	}
	two := one
	one.Last, two.First, two.Number = least, least+"\x00", s.Next+1
	return []api.File{one, two}
}

// P1504: the manifest takes what was laid together as it is, so often as there is something to pick.
func TestTogether(t *testing.T) {
	r := rand.New(rand.NewSource(1504))
	laid := [api.MaxLevel]int{}
	for range 2000 {
		s := filled(t, r)
		base, ratio := float64(1+r.Intn(40)), []float64{0.3, 1, 3, inf, nan}[r.Intn(5)]
		for range 20 {
			level, l, ok := pick.Pick(s.Files, base, ratio)
			if !ok {
				break
			}
			next, e := manifest.Apply(s, api.Edit{Remove: l, Add: together(s, l, level+1, r)})
			if e != api.OK {
				t.Fatalf("%v: level %d, %v: %d", s.Files, level, l, e)
			}
			laid[level]++
			s = next
		}
	}
	for level, n := range laid {
		if n < 100 {
			t.Errorf("level %d was picked %d times alone", level, n)
		}
	}
}

// FuzzPick holds all calls against the document's words; each file is six bytes.
func FuzzPick(f *testing.F) {
	f.Add("", 0.0, 0.0, 0, "", "")
	f.Add("\x00\x01\x05ab \x00\x02\x05cd \x00\x03\x05ee \x00\x04\x05ba \x01\x05\x05ac ", nan, minus, 1, "a", "b")
	f.Add("\x01\x02\x7faz \x01\x01\x80bb \x02\x02\x10zz \x06\x01\x01aa ", inf, 2.0, 6, "", "\xff")
	f.Fuzz(func(t *testing.T, b string, base, ratio float64, level int, first, last string) {
		var l []api.File
		for ; len(b) >= 6 && len(l) < 50; b = b[6:] {
			bytes := int(int8(b[2]))
			bytes *= 1 << (b[5] % 63)
			l = append(l, file(int(int8(b[0])), int(int8(b[1])), bytes, b[3:4], b[4:5]))
		}
		holds(t, l, base, ratio, level, first, last)
	})
}
