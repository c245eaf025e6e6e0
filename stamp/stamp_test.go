package stamp_test

import (
	"math"
	"math/big"
	"testing"

	"bedrock/api"
	"bedrock/real"
	"bedrock/stamp"
)

const latest = api.MaxTime - 1

var (
	nan    = math.NaN()
	inf    = math.Inf(1)
	below0 = math.Copysign(0, -1)
)

// drifts are speeds of all kinds.
var drifts = []float64{0, below0, nan, math.Float64frombits(0xfff0000000000001), inf, -inf, 1, -1, 2, 0.5, 1.55, 1e-9, 1e300, math.MaxFloat64, -math.MaxFloat64, math.SmallestNonzeroFloat64, math.Nextafter(1, 0), math.Nextafter(1, 2)}

// numbers are times and what is none, close to each edge.
var numbers = []int{0, 1, 2, 3, 7, 1000, 1 << 47, latest - 2, latest - 1, latest, latest + 1, latest + 2, 1 << 53, math.MaxInt - 1, math.MaxInt, -1, -2, -api.MaxTime, math.MinInt + 1, math.MinInt}

// at holds a clock's times against those that are wanted.
func at(t *testing.T, what string, c *stamp.Clock, now, last int) {
	t.Helper()
	if c.Now() != now || c.Last() != last {
		t.Errorf("%s: now %d, last %d, not %d, %d", what, c.Now(), c.Last(), now, last)
	}
}

// next holds a time that a clock gives out against the one that is wanted.
func next(t *testing.T, c *stamp.Clock, after, want int, wantE api.Errno) {
	t.Helper()
	if n, e := c.Next(after); n != want || e != wantE {
		t.Errorf("Next(%d): %d, %d, not %d, %d", after, n, e, want, wantE)
	}
}

// P401
func TestNewIsAtZero(t *testing.T) {
	for _, f := range drifts {
		c := stamp.New(f)
		if c == nil {
			t.Fatalf("New(%g): nil", f)
		}
		at(t, "New", c, 0, 0)
	}
	c, d := stamp.New(1), stamp.New(1)
	c.Tick(5)
	c.Seen(7)
	at(t, "another clock", d, 0, 0)
}

// P401
func TestTick(t *testing.T) {
	for _, c := range []struct {
		drift float64
		ticks []int
		now   int
	}{
		{1, []int{5}, 5},
		{1, []int{5, 7}, 12},
		{1, nil, 0},
		{1, []int{0}, 0},
		{1, []int{9, -4}, 9},
		{1, []int{9, math.MinInt}, 9},
		{2, []int{5, 1}, 12},
		{0.5, []int{3, 3}, 2}, // each tick is rounded down, not their sum
		{0.5, []int{6}, 3},
		{1.55, []int{10}, 15},
		{1e-9, []int{1000, 1000}, 0},
		{nan, []int{3, 4}, 7},
		{nan, []int{api.MaxTime}, latest},
		{inf, []int{0}, 0},
		{inf, []int{-1}, 0},
		{inf, []int{1}, latest},
		{-inf, []int{1, 9}, 0},
		{-1, []int{9}, 0},
		{0, []int{9, latest}, 0},
		{below0, []int{9}, 0},
		{math.SmallestNonzeroFloat64, []int{latest}, 0},
		{math.MaxFloat64, []int{1}, latest},
		{1, []int{latest}, latest},
		{1, []int{latest - 1}, latest - 1},
		{1, []int{latest - 1, 1}, latest},
		{1, []int{latest - 1, 2}, latest},
		{1, []int{latest, 1}, latest},
		{1, []int{latest, latest, latest}, latest},
		{1, []int{api.MaxTime}, latest},
		{1, []int{math.MaxInt}, latest},
		{1, []int{math.MaxInt, math.MaxInt}, latest},
		{inf, []int{math.MaxInt, math.MaxInt}, latest},
		{1, []int{latest, -5}, latest},
	} {
		k := stamp.New(c.drift)
		for _, n := range c.ticks {
			k.Tick(n)
		}
		if k.Now() != c.now || k.Last() != 0 {
			t.Errorf("New(%g), Tick of %v: now %d, last %d, not %d, 0", c.drift, c.ticks, k.Now(), k.Last(), c.now)
		}
	}
}

// P401
func TestDrift(t *testing.T) {
	c := stamp.New(2)
	c.Tick(5)
	c.Drift(3)
	at(t, "what went by stays", c, 10, 0)
	c.Tick(5)
	at(t, "three times as fast", c, 25, 0)
	for _, f := range []float64{0, below0, -1, -inf} {
		c.Drift(f)
		c.Tick(1000)
		at(t, "it stands still", c, 25, 0)
	}
	c.Drift(nan)
	c.Tick(4)
	at(t, "nan", c, 29, 0)
	c.Drift(0.5)
	c.Tick(3)
	at(t, "half as fast", c, 30, 0)
	c.Drift(inf)
	at(t, "nothing went by", c, 30, 0)
	c.Tick(1)
	at(t, "infinity", c, latest, 0)
	c.Drift(1)
	c.Tick(1)
	at(t, "the end", c, latest, 0)
}

// P402
func TestNext(t *testing.T) {
	c := stamp.New(2)
	next(t, c, 0, 1, api.OK)
	c.Tick(5)
	next(t, c, 0, 10, api.OK) // Now
	next(t, c, 0, 11, api.OK) // Last + 1
	next(t, c, 10, 12, api.OK)
	next(t, c, 11, 13, api.OK)
	next(t, c, 13, 14, api.OK)
	next(t, c, 15, 16, api.OK) // after + 1
	next(t, c, 50, 51, api.OK)
	next(t, c, -9, 52, api.OK)
	next(t, c, math.MinInt, 53, api.OK)
	at(t, "Next", c, 10, 53)
	c.Tick(21)
	next(t, c, 0, 54, api.OK) // Now is behind by one
	c.Tick(2)
	next(t, c, 54, 56, api.OK) // Now is ahead of all
	next(t, c, 55, 57, api.OK)
	at(t, "Next", c, 56, 57)
}

// P402
func TestNextOfAfterBelowZero(t *testing.T) {
	for _, after := range []int{0, -1, -2, -api.MaxTime, math.MinInt} {
		next(t, stamp.New(0), after, 1, api.OK)
		c := stamp.New(1)
		c.Tick(1)
		next(t, c, after, 1, api.OK)
	}
}

// P402
func TestNextAtTheEnd(t *testing.T) {
	c := stamp.New(1)
	c.Tick(5)
	c.Seen(7)
	for _, after := range []int{latest, api.MaxTime, api.MaxTime + 1, math.MaxInt - 1, math.MaxInt} {
		next(t, c, after, 0, api.ErrOver)
		at(t, "ErrOver", c, 5, 7)
	}
	next(t, c, 0, 8, api.OK)
	next(t, c, latest-2, latest-1, api.OK)
	next(t, c, latest-1, latest, api.OK)
	for _, after := range []int{0, -1, math.MinInt, latest, math.MaxInt} {
		next(t, c, after, 0, api.ErrOver)
		at(t, "ErrOver", c, 5, latest)
	}
	c.Tick(1)
	at(t, "time goes on", c, 6, latest)

	c = stamp.New(inf)
	c.Tick(1)
	next(t, c, latest, 0, api.ErrOver)
	at(t, "ErrOver", c, latest, 0)
	next(t, c, 0, latest, api.OK)
	next(t, c, 0, 0, api.ErrOver)
	at(t, "ErrOver", c, latest, latest)
}

// P403
func TestSeen(t *testing.T) {
	c := stamp.New(1)
	c.Tick(3)
	for _, s := range []struct{ t, last int }{
		{-1, 0},
		{math.MinInt, 0},
		{0, 0},
		{api.MaxTime, 0},
		{math.MaxInt, 0},
		{1, 1}, // below Now
		{100, 100},
		{99, 100},
		{100, 100},
		{0, 100},
		{-1, 100},
		{101, 101},
		{api.MaxTime, 101},
		{api.MaxTime + 1, 101},
		{math.MaxInt, 101},
		{latest - 1, latest - 1},
		{latest, latest},
		{api.MaxTime, latest},
		{5, latest},
	} {
		c.Seen(s.t)
		if c.Last() != s.last || c.Now() != 3 {
			t.Errorf("Seen(%d): now %d, last %d, not 3, %d", s.t, c.Now(), c.Last(), s.last)
		}
	}
	c = stamp.New(1)
	c.Seen(100)
	next(t, c, 50, 101, api.OK)
	c.Seen(latest)
	next(t, c, 50, 0, api.ErrOver)
}

// P404
func TestGreater(t *testing.T) {
	l := []int{math.MinInt, math.MinInt + 1, -1, 0, 1, latest, api.MaxTime, math.MaxInt - 1, math.MaxInt}
	for i, t1 := range l {
		for k, t2 := range l {
			for m, o1 := range l {
				for n, o2 := range l {
					for p, x1 := range l {
						for q, x2 := range l {
							want := i > k || i == k && (m > n || m == n && p > q)
							if g := stamp.Greater(t1, o1, x1, t2, o2, x2); g != want {
								t.Fatalf("Greater(%d, %d, %d, %d, %d, %d): %t", t1, o1, x1, t2, o2, x2, g)
							}
						}
					}
				}
			}
		}
	}
}

// P405
func TestZeroClock(t *testing.T) {
	var c stamp.Clock
	at(t, "zero", &c, 0, 0)
	c.Tick(9)
	c.Tick(math.MaxInt)
	at(t, "it stands still", &c, 0, 0)
	next(t, &c, 0, 1, api.OK)
	c.Seen(5)
	next(t, &c, 0, 6, api.OK)
	next(t, &c, latest, 0, api.ErrOver)
	c.Drift(2)
	c.Tick(9)
	at(t, "Drift", &c, 18, 6)
	next(t, &c, 0, 18, api.OK)
}

// P405
func TestNilClock(t *testing.T) {
	var c *stamp.Clock
	c.Drift(2)
	c.Tick(9)
	c.Seen(9)
	at(t, "nil", c, 0, 0)
	for _, after := range numbers {
		next(t, c, after, 0, api.ErrArg)
	}
	at(t, "nil", c, 0, 0)
}

// model is a clock by the document's words, in numbers that have no end.
type model struct {
	now, last *big.Int
	drift     float64
}

func (m *model) tick(n int) {
	sum := new(big.Int).Add(m.now, big.NewInt(int64(real.Scale(n, m.drift))))
	m.now = least(sum, big.NewInt(latest))
}

func (m *model) next(after int) (int, api.Errno) {
	one := big.NewInt(1)
	n := greatest(m.now, new(big.Int).Add(m.last, one))
	n = greatest(n, new(big.Int).Add(greatest(big.NewInt(int64(after)), new(big.Int)), one))
	if n.Cmp(big.NewInt(latest)) > 0 {
		return 0, api.ErrOver
	}
	m.last = n
	return int(n.Int64()), api.OK
}

func (m *model) seen(t int) {
	if s := big.NewInt(int64(t)); s.Cmp(m.last) > 0 && s.Cmp(big.NewInt(latest)) <= 0 {
		m.last = s
	}
}

func greatest(a, b *big.Int) *big.Int {
	if a.Cmp(b) < 0 {
		return b
	}
	return a
}

func least(a, b *big.Int) *big.Int {
	if a.Cmp(b) > 0 {
		return b
	}
	return a
}

// dice gives numbers below n, always the same ones of one seed.
type dice uint64

func (d *dice) below(n int) int {
	*d += 0x9e3779b97f4a7c15
	z := uint64(*d)
	z = (z ^ z>>30) * 0xbf58476d1ce4e5b9
	z = (z ^ z>>27) * 0x94d049bb133111eb
	return int((z ^ z>>31) % uint64(n))
}

// number is mostly a small one, now and then an edge.
func (d *dice) number(close int) int {
	switch d.below(20) {
	case 0:
		return numbers[d.below(len(numbers))]
	case 1, 2, 3:
		return close + d.below(7) - 3 // it wraps round at no int that a clock has
	}
	return d.below(60) - 10
}

// P401, P402, P403, P405, P406: many steps, held against the model and against what comes of the promises.
func TestClockByTheDocument(t *testing.T) {
	for seed := range 400 {
		d := dice(seed)
		drift := drifts[d.below(len(drifts))]
		if seed%4 > 0 {
			drift = float64(d.below(40)) / 8
		}
		c := stamp.New(drift)
		m := &model{new(big.Int), new(big.Int), drift}
		highest := 0 // of all that was given out, and seen
		for step := range 120 {
			switch d.below(4) {
			case 0:
				n := d.number(c.Now())
				c.Tick(n)
				m.tick(n)
			case 1:
				after := d.number(c.Last())
				n, e := c.Next(after)
				if w, wantE := m.next(after); n != w || e != wantE {
					t.Fatalf("seed %d, step %d: Next(%d): %d, %d, not %d, %d", seed, step, after, n, e, w, wantE)
				}
				if e == api.OK {
					if n <= highest || n <= after || n < c.Now() || n > latest {
						t.Fatalf("seed %d, step %d: Next(%d): %d, behind %d", seed, step, after, n, highest)
					}
					highest = n
				}
			case 2:
				s := d.number(c.Last())
				c.Seen(s)
				m.seen(s)
				if s <= latest {
					highest = max(highest, s)
				}
			case 3:
				if d.below(3) == 0 {
					f := drifts[d.below(len(drifts))]
					c.Drift(f)
					m.drift = f
				}
			}
			if int64(c.Now()) != m.now.Int64() || int64(c.Last()) != m.last.Int64() {
				t.Fatalf("seed %d, step %d: now %d, last %d, not %v, %v", seed, step, c.Now(), c.Last(), m.now, m.last)
			}
		}
	}
}

// P402, P403: of each pair of numbers, at each kind of Now.
func TestNextOfAllEdges(t *testing.T) {
	for _, now := range numbers {
		for _, last := range numbers {
			for _, after := range numbers {
				c := stamp.New(1)
				m := &model{new(big.Int), new(big.Int), 1}
				c.Tick(now)
				m.tick(now)
				c.Seen(last)
				m.seen(last)
				w, e := m.next(after)
				next(t, c, after, w, e)
				at(t, "Next", c, int(m.now.Int64()), int(m.last.Int64()))
			}
		}
	}
}
