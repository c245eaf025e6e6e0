package fold_test

import (
	"math"
	"math/rand"
	"slices"
	"testing"

	"bedrock/api"
	"bedrock/fold"
	"bedrock/op"
	"bedrock/real"
)

// timeOf is a version's time by the document's words.
func timeOf(v api.Version) int {
	time := 0
	for i, x := range v.At {
		if i == v.Origin && v.Origin != 254 || v.Origin == 254 && (i == 0 || x > time) {
			time = x
		}
	}
	return time
}

// ahead tells by the document's words whether a version stands ahead of another one.
func ahead(v, w api.Version) bool {
	// With all bits turned the greater one of two ints is the lesser one.
	a, b := []int{^timeOf(v), ^v.Origin, ^v.Tx, len(v.At)}, []int{^timeOf(w), ^w.Origin, ^w.Tx, len(w.At)}
	return slices.Compare(append(a, v.At...), append(b, w.At...)) < 0
}

// seen tells whether a version is seen at a vector.
func seen(v api.Version, at api.Vec) bool {
	for i := range v.At {
		if i < len(at) && v.At[i] > at[i] {
			return false
		}
	}
	return len(v.At) == len(at)
}

// orderedBy tells what Order is to tell, by the document's words: each version of which none ahead is as it, at the place that so many ahead of it leave.
func orderedBy(l versions) versions {
	var alone versions
	for _, v := range l {
		if !slices.ContainsFunc(alone, func(w api.Version) bool { return !ahead(v, w) && !ahead(w, v) }) {
			alone = append(alone, v)
		}
	}
	out := make(versions, len(alone))
	for _, v := range alone {
		n := 0
		for _, w := range alone {
			if ahead(w, v) {
				n++
			}
		}
		out[n] = v
	}
	return out
}

// droppedBy tells what Drop is to tell, by the document's words.
func droppedBy(key string, l versions, floor api.Vec, all bool) versions {
	l = orderedBy(l)
	isFloor := len(floor) >= 1 && len(floor) <= 8 && slices.Min(floor) >= 0 && slices.Max(floor) < 1<<48
	if len(key) == 0 || len(key) > 64 || !slices.Contains([]byte("rtcxn"), key[0]) || !isFloor {
		return l
	}
	var stay, others, both versions
	for _, v := range l {
		switch {
		case !seen(v, floor):
			stay, both = append(stay, v), append(both, v)
		case op.Fits(key, v.Act):
			others, both = append(others, v), append(both, v)
		}
	}
	if len(others) == 0 {
		return stay
	}
	first := others[0]
	switch {
	case key[0] == 'r' || key[0] == 't':
		lesser := slices.ContainsFunc(stay, func(v api.Version) bool { return ahead(first, v) })
		if all && first.Act.Kind == 4 && timeOf(first) <= slices.Min(floor) && !lesser {
			return stay
		}
		return slices.DeleteFunc(both, func(v api.Version) bool { return seen(v, floor) && ahead(first, v) })
	case all && len(others) > 1:
		return append(stay, sumOf(key, others))
	}
	return both
}

// sumOf tells the one version that stands for others.
func sumOf(key string, l versions) api.Version {
	one := folded(key, api.Act{}, math.MinInt, slices.Clone(l[0].At)...)
	var whole int
	var nums []float64
	for _, v := range l {
		one.Tx = max(one.Tx, v.Tx)
		for i, x := range v.At {
			one.At[i] = max(one.At[i], x)
		}
		whole += v.Act.Int
		nums = append(nums, v.Act.Num)
	}
	slices.SortFunc(nums, real.Compare)
	switch key[0] {
	case 'c':
		one.Act = add(whole)
	case 'x':
		one.Act = top(nums[len(nums)-1])
	case 'n':
		one.Act = low(nums[0])
	}
	return one
}

// holds holds all calls against the document's words.
func holds(t *testing.T, key string, l versions, floor api.Vec, all bool) {
	t.Helper()
	kept := show(l)
	if got, want := fold.Order(l), orderedBy(l); show(got) != show(want) {
		t.Fatalf("Order(%s): %s, not %s", show(l), show(got), show(want))
	}
	if got, want := fold.Drop(key, l, floor, all), droppedBy(key, l, floor, all); show(got) != show(want) {
		t.Fatalf("Drop(%q, %s, %v, %t): %s, not %s", key, show(l), floor, all, show(got), show(want))
	}
	var read versions
	for _, v := range orderedBy(l) {
		if seen(v, floor) {
			read = append(read, v)
		}
	}
	if got, want := fold.Read(key, l, floor), op.Value(key, read); !op.SameValue(got, want) {
		t.Fatalf("Read(%q, %s, %v): %v, not %v", key, show(l), floor, got, want)
	}
	if show(l) != kept {
		t.Fatalf("%s is changed to %s", kept, show(l))
	}
}

// pick tells one of a list.
func pick[T any](r *rand.Rand, l []T) T { return l[r.Intn(len(l))] }

// actFor makes an act, mostly one that fits the key.
func actFor(r *rand.Rand, key string) api.Act {
	nums := []float64{0, 1, -1, 5, below0, nan, inf, -inf}
	fitting := map[byte][]api.Act{
		'r': {set(pick(r, nums)), set(float64(r.Intn(9))), gone},
		't': {text("a"), text("b"), text(""), gone},
		'c': {add(r.Intn(9) - 4), add(pick(r, []int{math.MaxInt, math.MinInt, 0}))},
		'x': {top(pick(r, nums)), top(float64(r.Intn(9)))},
		'n': {low(pick(r, nums)), low(float64(r.Intn(9)))},
	}
	if key == "" || fitting[key[0]] == nil || r.Intn(6) == 0 {
		return pick(r, []api.Act{set(1), set(below0), text("a"), add(1), top(nan), low(2), gone, {Kind: 9}, {Num: 1, Text: "a"}, {Kind: 4, Int: 1}})
	}
	return pick(r, fitting[key[0]])
}

// version makes a version with a vector of so many times.
func version(r *rand.Rand, key string, n, most int) api.Version {
	at := make([]int, n)
	for i := range at {
		at[i] = r.Intn(most)
	}
	return v(actFor(r, key), r.Intn(n), r.Intn(4), at...)
}

// wild makes a version that can't be kept, or one that is folded.
func wild(r *rand.Rand, v api.Version) api.Version {
	numbers := []int{-1, -2, 8, 253, 255, 300, math.MaxInt, math.MinInt}
	switch r.Intn(5) {
	case 0:
		v.Origin = pick(r, numbers)
	case 1:
		v.Tx = pick(r, numbers)
	case 2:
		v.At[r.Intn(len(v.At))] = pick(r, numbers)
	case 3:
		v.At = v.At[:r.Intn(len(v.At)+1)]
	case 4:
		v.Origin = api.Folded
	}
	return v
}

// list makes versions of one key, some of them twice.
func list(r *rand.Rand, key string, n, most int) versions {
	var l versions
	for range r.Intn(9) {
		v := version(r, key, n, most)
		v.Key = pick(r, []string{"", key, "other"})
		switch r.Intn(8) {
		case 0, 1:
			v = wild(r, v)
		case 2:
			if len(l) > 0 {
				twin := pick(r, l)
				twin.Act = v.Act
				v = twin
			}
		}
		l = append(l, v)
	}
	return l
}

// floorOf makes a floor, now and then one that is none.
func floorOf(r *rand.Rand, n, most int) api.Vec {
	floor := make(api.Vec, n)
	for i := range floor {
		floor[i] = r.Intn(most)
	}
	switch r.Intn(20) {
	case 0:
		floor[r.Intn(n)] = pick(r, []int{-1, api.MaxTime - 1, api.MaxTime, math.MaxInt, math.MinInt})
	case 1:
		floor = floor[:r.Intn(n+1)]
	}
	return floor
}

var someKeys = []string{"r", "t", "c", "x", "n", "rk", "c1", "q", ""}

// P1701, P1702: random versions, also such as can't be kept.
func TestModel(t *testing.T) {
	r := rand.New(rand.NewSource(17))
	for range 40000 {
		key, n, most := pick(r, someKeys), 1+r.Intn(3), 2+r.Intn(4)
		holds(t, key, list(r, key, n, most), floorOf(r, n, most), r.Intn(2) == 0)
	}
}

// reads tells what a key has at each vector from the floor on, up to some time.
func reads(key string, l versions, floor api.Vec, most int) []api.Value {
	var out []api.Value
	at := slices.Clone(floor)
	for {
		out = append(out, fold.Read(key, l, at))
		i := 0
		for i < len(at) && at[i] >= most {
			at[i] = floor[i]
			i++
		}
		if i == len(at) {
			return out
		}
		at[i]++
	}
}

// coming makes versions that are not seen at the floor, whose time is above the floor's at their place.
func coming(r *rand.Rand, key string, floor api.Vec, most int) versions {
	var l versions
	for range r.Intn(5) {
		v := version(r, key, len(floor), most)
		v.At[v.Origin] = floor[v.Origin] + 1 + r.Intn(3)
		l = append(l, v)
	}
	return l
}

// P1703: also where it is done again, at a floor that has risen.
func TestReadsStay(t *testing.T) {
	r := rand.New(rand.NewSource(1703))
	fewer := map[string]int{}
	for range 2500 {
		const most = 5
		key, n := pick(r, []string{"r", "t", "c", "x", "n"}), 1+r.Intn(2)
		l, all := list(r, key, n, most), r.Intn(2) == 0
		kept, floor := l, make(api.Vec, n)
		for range 3 {
			for i := range floor {
				floor[i] += r.Intn(3)
			}
			before := len(kept)
			kept = fold.Drop(key, kept, floor, all)
			if len(kept) < before {
				fewer[key]++
			}
			if !slices.EqualFunc(reads(key, l, floor, most+3), reads(key, kept, floor, most+3), op.SameValue) {
				t.Fatalf("%q at %v, %t: %s is not read as %s", key, floor, all, show(kept), show(l))
			}
			// What comes may stand in front as well as behind.
			more := coming(r, key, floor, most)
			if r.Intn(2) == 0 {
				l, kept = append(slices.Clone(l), more...), append(kept, more...)
			} else {
				l, kept = append(slices.Clone(more), l...), append(slices.Clone(more), kept...)
			}
			if !slices.EqualFunc(reads(key, l, floor, most+3), reads(key, kept, floor, most+3), op.SameValue) {
				t.Fatalf("%q at %v, %t, with %s: %s is not read as %s", key, floor, all, show(more), show(kept), show(l))
			}
		}
	}
	for _, key := range []string{"r", "t", "c", "x", "n"} {
		if fewer[key] < 200 {
			t.Errorf("of %q something was dropped %d times alone", key, fewer[key])
		}
	}
}

// FuzzDrop holds all calls against the document's words; each version is six bytes.
func FuzzDrop(f *testing.F) {
	f.Add("r", "\x00\x01\x02\x01\x00\x05\x00\x01\x02\x02\x04\x00", 3, 2, true)
	f.Add("c1", "\x00\x01\x02\x01\x01\x05\x01\x01\x02\x02\x01\x07\xfe\x01\x00\x02\x01\x80", 2, 2, true)
	f.Add("x", "\x00\x01\xff\x01\x02\x05\x07\x01\x02\x02\x02\xff", 0, 9, false)
	f.Fuzz(func(t *testing.T, key, b string, first, second int, all bool) {
		var l versions
		for ; len(b) >= 6 && len(l) < 30; b = b[6:] {
			a := api.Act{Kind: int(b[4]) % 6}
			switch a.Kind {
			case api.ActAdd:
				a.Int = int(int8(b[5])) << (b[5] % 63)
			case api.ActSet, api.ActMax, api.ActMin:
				a.Num = []float64{0, 1, 2, -1, below0, nan, inf, -inf}[b[5]%8]
			}
			l = append(l, v(a, int(b[0]), int(b[1]%4), int(int8(b[2])), int(int8(b[3]))))
		}
		holds(t, key, l, api.Vec{first, second}, all)
	})
}
