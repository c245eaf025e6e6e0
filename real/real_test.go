package real_test

import (
	"math"
	"testing"

	"bedrock/api"
	"bedrock/raw"
	"bedrock/real"
)

var (
	nan     = math.NaN()
	inf     = math.Inf(1)
	minus   = math.Inf(-1)
	below0  = math.Copysign(0, -1)
	tiny    = math.SmallestNonzeroFloat64
	huge    = math.MaxFloat64
	normal  = math.Float64frombits(1 << 52)   // the least with 53 bits
	reduced = math.Float64frombits(1<<52 - 1) // the greatest with fewer
)

// ordered are numbers in the order of all.
func ordered() []float64 {
	above := []float64{tiny, 2 * tiny, 3 * tiny, reduced, normal, 0.1, 0.5, math.Nextafter(1, 0), 1, math.Nextafter(1, 2), 1.5, 2, 3, 1<<53 - 1, 1 << 53, 1<<53 + 2, 1e300, math.Nextafter(huge, 0), huge, inf}
	l := []float64{nan}
	for i := range above {
		l = append(l, -above[len(above)-1-i])
	}
	l = append(l, below0, 0)
	return append(l, above...)
}

// nans are numbers that are none, quiet ones and others, with a sign and without.
func nans() []float64 {
	var l []float64
	for _, x := range []uint64{0x7ff0000000000001, 0x7ff8000000000000, 0x7ff8000000000001, 0x7fffffffffffffff} {
		l = append(l, math.Float64frombits(x), math.Float64frombits(x|1<<63))
	}
	return l
}

// alike tells whether two numbers are one by the document, asked without the package.
func alike(a, b float64) bool {
	return math.Float64bits(a) == math.Float64bits(b) || a != a && b != b
}

// fixed lays the 8 bytes of x, the highest first.
func fixed(x uint64) string {
	b := make([]byte, 8)
	for i := range b {
		b[i] = byte(x >> (56 - 8*i))
	}
	return string(b)
}

// scatter calls f with so many numbers of 64 bits, always the same ones.
func scatter(n int, f func(uint64)) {
	x := uint64(0)
	for range n {
		x += 0x9e3779b97f4a7c15
		z := (x ^ x>>30) * 0xbf58476d1ce4e5b9
		z = (z ^ z>>27) * 0x94d049bb133111eb
		f(z ^ z>>31)
	}
}

// P201
func TestPut(t *testing.T) {
	for _, c := range []struct {
		f float64
		b string
	}{
		{0, "\x80\x00\x00\x00\x00\x00\x00\x00"},
		{below0, "\x7f\xff\xff\xff\xff\xff\xff\xff"},
		{1, "\xbf\xf0\x00\x00\x00\x00\x00\x00"},
		{-1, "\x40\x0f\xff\xff\xff\xff\xff\xff"},
		{tiny, "\x80\x00\x00\x00\x00\x00\x00\x01"},
		{-tiny, "\x7f\xff\xff\xff\xff\xff\xff\xfe"},
		{huge, "\xff\xef\xff\xff\xff\xff\xff\xff"},
		{inf, "\xff\xf0\x00\x00\x00\x00\x00\x00"},
		{minus, "\x00\x0f\xff\xff\xff\xff\xff\xff"},
		{math.Float64frombits(0x0123456789abcdef), "\x81\x23\x45\x67\x89\xab\xcd\xef"},
		{math.Float64frombits(0x8123456789abcdef), "\x7e\xdc\xba\x98\x76\x54\x32\x10"},
	} {
		if b := real.Put(c.f); b != c.b {
			t.Errorf("Put(%g): %x, not %x", c.f, b, c.b)
		}
	}
	for _, f := range nans() {
		if b := real.Put(f); b != fixed(0) {
			t.Errorf("Put(%x): %x, not eight bytes 0", math.Float64bits(f), b)
		}
	}
}

// P201
func TestPutKeepsTheOrder(t *testing.T) {
	l := ordered()
	for i, a := range l {
		for k, b := range l {
			want := min(max(i-k, -1), 1)
			if c := raw.Compare(real.Put(a), real.Put(b)); c != want {
				t.Errorf("Put(%g) against Put(%g): %d, not %d", a, b, c, want)
			}
		}
	}
}

// P201
func TestGet(t *testing.T) {
	for _, f := range ordered() {
		if g, e := real.Get(real.Put(f)); !alike(f, g) || e != api.OK {
			t.Errorf("Get of Put(%g): %g, %d", f, g, e)
		}
	}
	for _, b := range []string{
		"", "\x80", "1234567", "123456789", fixed(0) + "\x00", fixed(0)[1:], fixed(1<<63) + fixed(1<<63),
	} {
		if f, e := real.Get(b); !alike(f, 0) || e != api.ErrForm {
			t.Errorf("Get(%x): %g, %d, not ErrForm", b, f, e)
		}
	}
}

// P201
func TestGetTakesWhatPutLaysAlone(t *testing.T) {
	const least, greatest = 0x000fffffffffffff, 0xfff0000000000000 // what Put lays of the infinities
	look := func(x uint64) {
		f, e := real.Get(fixed(x))
		switch {
		case x == 0:
			if e != api.OK || f == f {
				t.Errorf("Get(%016x): %g, %d, not nan", x, f, e)
			}
		case x < least || x > greatest:
			if e != api.ErrForm || !alike(f, 0) {
				t.Errorf("Get(%016x): %g, %d, not ErrForm", x, f, e)
			}
		case e != api.OK || f != f || real.Put(f) != fixed(x):
			t.Errorf("Get(%016x): %g, %d", x, f, e)
		}
	}
	for d := range uint64(300) {
		for _, x := range []uint64{0, least, greatest, 1 << 63, 1 << 52, 1 << 56} {
			look(x + d)
			look(x - d)
		}
	}
	scatter(20000, look)
	scatter(2000, func(x uint64) { look(x >> 12) })
	scatter(2000, func(x uint64) { look(^(x >> 12)) })
}

// P202
func TestCompareSameMaxMin(t *testing.T) {
	l := ordered()
	for i, a := range l {
		for k, b := range l {
			want := min(max(i-k, -1), 1)
			if c := real.Compare(a, b); c != want {
				t.Errorf("Compare(%g, %g): %d, not %d", a, b, c, want)
			}
			if s := real.Same(a, b); s != (want == 0) {
				t.Errorf("Same(%g, %g): %t", a, b, s)
			}
			if m := real.Max(a, b); !alike(m, l[max(i, k)]) {
				t.Errorf("Max(%g, %g): %g", a, b, m)
			}
			if m := real.Min(a, b); !alike(m, l[min(i, k)]) {
				t.Errorf("Min(%g, %g): %g", a, b, m)
			}
		}
	}
}

// P202
func TestAllNansAreOne(t *testing.T) {
	for _, a := range nans() {
		for _, b := range nans() {
			if real.Compare(a, b) != 0 || !real.Same(a, b) || !alike(real.Max(a, b), nan) || !alike(real.Min(a, b), nan) {
				t.Errorf("%x against %x", math.Float64bits(a), math.Float64bits(b))
			}
		}
		for _, f := range ordered()[1:] {
			if real.Compare(a, f) != -1 || real.Compare(f, a) != 1 || real.Same(a, f) || real.Same(f, a) {
				t.Errorf("%x against %g", math.Float64bits(a), f)
			}
			if !alike(real.Max(a, f), f) || !alike(real.Max(f, a), f) || !alike(real.Min(a, f), nan) || !alike(real.Min(f, a), nan) {
				t.Errorf("the later and the earlier one of %x and %g", math.Float64bits(a), f)
			}
		}
	}
}

// P205
func TestRatio(t *testing.T) {
	for _, c := range []struct {
		a, b int
		f    float64
	}{
		{0, 0, nan},
		{1, 0, inf},
		{-1, 0, minus},
		{math.MaxInt, 0, inf},
		{math.MinInt, 0, minus},
		{0, 5, 0},
		{0, -5, below0},
		{3, 2, 1.5},
		{-3, 2, -1.5},
		{3, -2, -1.5},
		{1, 3, 1.0 / 3},
		{1, 10, 0.1},
		{7, 7, 1},
		{math.MinInt, -1, 1 << 63},
		{math.MaxInt, 1, 1 << 63},
		{math.MaxInt, math.MinInt, -1},
		{1<<53 + 1, 1, 1 << 53},
		{1<<53 + 1, 1<<53 + 1, 1},
		{1, math.MinInt, -1.0 / (1 << 63)},
	} {
		if f := real.Ratio(c.a, c.b); !alike(f, c.f) {
			t.Errorf("Ratio(%d, %d): %g, not %g", c.a, c.b, f, c.f)
		}
	}
}

// P206
func TestScale(t *testing.T) {
	const most = api.MaxTime
	for _, c := range []struct {
		n  int
		by float64
		to int
	}{
		{10, 1.55, 15},
		{10, 1, 10},
		{3, 0.4, 1},
		{3, 0.3, 0},
		{5, math.Nextafter(1, 0), 4},
		{1, math.Nextafter(2, 0), 1},
		{10, 0.1, 1},
		{3, 1.0 / 3, 1},
		{10, nan, 10},
		{0, nan, 0},
		{-1, nan, 0},
		{most + 1, nan, most},
		{math.MinInt, nan, 0},
		{math.MaxInt, nan, most},
		{0, inf, 0},
		{-5, inf, 0},
		{1, inf, most},
		{10, minus, 0},
		{0, minus, 0},
		{10, 0, 0},
		{10, below0, 0},
		{10, -1, 0},
		{10, -tiny, 0},
		{10, tiny, 0},
		{-5, 3, 0},
		{-5, -3, 0},
		{math.MinInt, 2, 0},
		{most, 1, most},
		{most - 1, 1, most - 1},
		{most, math.Nextafter(1, 0), most - 1},
		{most, math.Nextafter(1, 2), most},
		{most - 1, 2, most},
		{most / 2, 2, most},
		{most/2 - 1, 2, most - 2},
		{most + 1, 1, most},
		{most + 2, 0.5, most / 2},
		{math.MaxInt, 0.5, most / 2},
		{math.MaxInt, 1, most},
		{1, most, most},
		{1, most - 1, most - 1},
		{1, 1 << 62, most},
		{1, 1 << 63, most},
		{1, 1e300, most},
		{most, huge, most},
		{2, huge, most},
	} {
		if to := real.Scale(c.n, c.by); to != c.to {
			t.Errorf("Scale(%d, %g): %d, not %d", c.n, c.by, to, c.to)
		}
	}
	for _, by := range nans() {
		if to := real.Scale(7, by); to != 7 {
			t.Errorf("Scale(7, %x): %d, not 7", math.Float64bits(by), to)
		}
	}
}

// P206
func TestScaleOfAllSpeeds(t *testing.T) {
	for _, by := range ordered() {
		for _, n := range []int{0, 1, 2, 3, 7, 1000, 1 << 20, 1<<30 + 1, 1<<47 + 1, api.MaxTime - 1, api.MaxTime} {
			want := float64(n)
			switch {
			case n == 0 || by <= 0:
				want = 0
			case by == by:
				want = math.Min(math.Floor(float64(n)*by), api.MaxTime)
			}
			if to := real.Scale(n, by); float64(to) != want {
				t.Errorf("Scale(%d, %g): %d, not %g", n, by, to, want)
			}
		}
	}
}

// P207
func TestNumbersAreGotAsTheyWerePut(t *testing.T) {
	look := func(x uint64) {
		f := math.Float64frombits(x)
		if g, e := real.Get(real.Put(f)); !alike(f, g) || e != api.OK {
			t.Errorf("Get of Put(%g): %g, %d", f, g, e)
		}
		if g, e := real.Parse(real.Text(f)); !alike(f, g) || e != api.OK {
			t.Errorf("Parse of Text(%g): %g, %d", f, g, e)
		}
	}
	for _, f := range append(ordered(), nans()...) {
		look(math.Float64bits(f))
	}
	scatter(20000, look)
	scatter(2000, func(x uint64) { look(x & (1<<63 | 1<<52 - 1)) })
	scatter(2000, func(x uint64) { look(math.Float64bits(float64(int64(x) >> (x % 64)))) })
}
