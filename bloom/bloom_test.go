package bloom_test

import (
	"encoding/hex"
	"fmt"
	"math"
	"slices"
	"strings"
	"testing"

	"bedrock/bloom"
)

var (
	nan    = math.NaN()
	inf    = math.Inf(1)
	minus  = math.Inf(-1)
	below0 = math.Copysign(0, -1)
	tiny   = math.SmallestNonzeroFloat64
	huge   = math.MaxFloat64
)

// before and behind are the numbers next to one.
func before(f float64) float64 { return math.Nextafter(f, minus) }
func behind(f float64) float64 { return math.Nextafter(f, inf) }

// nans are numbers that are none, quiet ones and others, with a sign and without.
func nans() []float64 {
	var l []float64
	for _, x := range []uint64{0x7ff0000000000001, 0x7ff8000000000000, 0x7ff8000000000001, 0x7fffffffffffffff} {
		l = append(l, math.Float64frombits(x), math.Float64frombits(x|1<<63))
	}
	return l
}

// P1201
func TestProbes(t *testing.T) {
	for _, c := range []struct {
		bits float64
		n    int
	}{
		{10, 7},
		{0, 1},
		{below0, 1},
		{tiny, 1},
		{-tiny, 1},
		{0.7, 1},
		{1, 1},
		{-1, 1},
		{-10, 1},
		{-43, 1},
		{1.4, 1},
		{2.8, 1},
		{2.9, 2},
		{4.2, 2},
		{4.3, 3},
		{9.9, 6},
		{10.1, 7},
		{20, 14},
		{30, 21},
		{40, 28},
		{before(10), 6},
		{41.4, 28},
		{41.5, 29},
		{42.8, 29},
		{42.9, 30},
		{43, 30},
		{44.3, 30}, // 31, but for the most there are
		{50, 30},
		{1 << 31, 30},
		{1 << 32, 30},
		{1 << 63, 30},
		{1 << 64, 30},
		{-1 << 63, 1},
		{-1 << 64, 1},
		{1e300, 30},
		{-1e300, 1},
		{huge, 30},
		{-huge, 1},
		{inf, 30},
		{minus, 1},
	} {
		if n := bloom.Probes(c.bits); n != c.n {
			t.Errorf("Probes(%v): %d, not %d", c.bits, n, c.n)
		}
	}
	for _, f := range nans() {
		if n := bloom.Probes(f); n != 1 {
			t.Errorf("Probes of nan %x: %d", math.Float64bits(f), n)
		}
	}
}

// P1201
func TestSize(t *testing.T) {
	for _, c := range []struct {
		n     int
		bits  float64
		bytes int
	}{
		{100, 10, 125},
		{0, inf, 8},
		{5, nan, 8},

		{0, 0, 8},
		{0, 10, 8},
		{0, below0, 8},
		{0, -10, 8},
		{0, huge, 8},
		{0, minus, 8},
		{0, nan, 8},
		{-1, 10, 8},
		{-1, 1e9, 8},
		{-1, -1e9, 8}, // not 10^9 bits
		{-5, inf, 8},
		{-5, minus, 8}, // not the greater infinity
		{math.MinInt, 1, 8},
		{math.MinInt, -1, 8},
		{math.MinInt, minus, 8},
		{math.MinInt, inf, 8},
		{math.MinInt, nan, 8},

		{1, 0, 8},
		{1, below0, 8},
		{1, -10, 8},
		{1000, -10, 8},
		{math.MaxInt, -1, 8},
		{math.MaxInt, -huge, 8},
		{math.MaxInt, 0, 8},
		{math.MaxInt, tiny, 8},
		{1, tiny, 8},
		{1, minus, 8},
		{math.MaxInt, minus, 8},
		{math.MaxInt, nan, 8},

		{1, 63, 8},
		{6, 10, 8},
		{7, 10, 9},
		{1, before(64), 8},
		{1, 64, 8},
		{1, behind(64), 9}, // 65 bits
		{1, 64.1, 9},
		{1, 65, 9},
		{1, 72, 9},
		{1, behind(72), 10},
		{1, 72.5, 10},
		{1, 73, 10},
		{3, 33, 13},
		{3, 24, 9},
		{3, behind(24), 10},
		{7, 0.1, 8},
		{1000, 0.1, 13}, // 100 bits
		{1000, 1.5, 188},
		{8, 9.5, 10}, // 76 bits, not 8 times 10
		{3, 21.4, 9}, // 64.2, 65 bits

		{1<<24 + 1, 1.0 / (1 << 18), 9}, // a little above 64
		{1<<53 + 1, 1.0 / (1 << 47), 8}, // 64: as a float64 the number is 2^53
		{1<<53 + 2, 1.0 / (1 << 47), 9},

		{52428, 10, 65535},
		{52429, 10, 65536},
		{1, 1<<19 - 8, 65535},
		{1, behind(1<<19 - 8), 65536},
		{1, before(1 << 19), 65536},
		{1, 1 << 19, 65536},
		{1, behind(1 << 19), 65536},
		{1, 1<<19 + 1, 65536},
		{1, 1<<19 + 8, 65536},
		{2, 1 << 18, 65536},
		{100000, 10, 65536},
		{1, inf, 65536},
		{5, inf, 65536},
		{1, huge, 65536},
		{math.MaxInt, huge, 65536}, // an infinity by then
		{math.MaxInt, inf, 65536},
		{math.MaxInt, 1, 65536},
		{1 << 62, 1, 65536},
		{1 << 62, 4, 65536}, // 2^64
		{1 << 32, 1 << 32, 65536},
		{1 << 31, 2, 65536},
		{1 << 62, 1.0 / (1 << 55), 16},
		{math.MaxInt, 1.0 / (1 << 56), 16},
		{math.MaxInt, 1.0 / (1 << 44), 65536},
		{math.MaxInt, 1.0 / (1 << 45), 32768},
	} {
		if n := bloom.Size(c.n, c.bits); n != c.bytes {
			t.Errorf("Size(%d, %v): %d, not %d", c.n, c.bits, n, c.bytes)
		}
	}
	for _, f := range nans() {
		for _, n := range []int{math.MinInt, -1, 0, 1, 1000, math.MaxInt} {
			if s := bloom.Size(n, f); s != 8 {
				t.Errorf("Size(%d, nan %x): %d", n, math.Float64bits(f), s)
			}
		}
	}
}

// P1202: the steps by hand: the sum of "a" is c1d04330, turned about 219860e8,
// that of "123456789" e3069283, turned about 4941f183.
func TestBuild(t *testing.T) {
	for _, c := range []struct {
		keys []string
		bits float64
		b    string
	}{
		{nil, 0, "000000000000000001"},
		{nil, 10, "000000000000000007"},
		{[]string{}, inf, "00000000000000001e"},
		{nil, nan, "000000000000000001"},
		{[]string{""}, 0, "010000000000000001"},
		{[]string{""}, inf, "01" + strings.Repeat("00", 65535) + "1e"}, // all at one place
		{[]string{"a"}, 5, "010000010000010003"},
		{[]string{"a"}, 0, "000000000000010001"},
		{[]string{"a"}, minus, "000000000000010001"},
		{[]string{"a", "a"}, 5, "010000010000010003"},
		{[]string{"123456789"}, 5, "480200000000000003"},
		{[]string{"123456789", "a"}, 5, "490200010000010003"},
		{[]string{"", "a"}, 0, "010000000000010001"},
		{[]string{"a", ""}, 0, "010000000000010001"},
	} {
		if b := hex.EncodeToString([]byte(bloom.Build(c.keys, c.bits))); b != c.b {
			t.Errorf("Build(%q, %v): %.40s, not %.40s", c.keys, c.bits, b, c.b)
		}
	}
}

// P1202: the bytes are as many as Size tells of all keys, those that stand there twice too.
func TestBuildTellsSizeAndProbes(t *testing.T) {
	for _, n := range []int{0, 1, 2, 7, 100, 3000} {
		same := slices.Repeat([]string{"same"}, n)
		for _, bits := range append(nans(), minus, -1, below0, 0, tiny, 0.5, 1, 2.9, 10, 42.9, 43, 64, 100, 1e6, 1e300, huge, inf) {
			b := bloom.Build(same, bits)
			if size := bloom.Size(n, bits); len(b) != size+1 || int(b[len(b)-1]) != bloom.Probes(bits) {
				t.Errorf("Build of %d keys, %v: %d bytes, %d probes", n, bits, len(b), b[len(b)-1])
			}
		}
	}
}

// P1202: a filter hangs on which keys there are, how many, and on nothing else;
// the keys stay as they are.
func TestBuildLeavesItsKeys(t *testing.T) {
	room := []string{"c", "a", "", "b", "a", "beyond"}
	want := slices.Clone(room)
	b := bloom.Build(room[:5], 20)
	for _, other := range [][]string{{"a", "a", "b", "c", ""}, {"", "c", "b", "a", "c"}} {
		if bloom.Build(other, 20) != b {
			t.Errorf("Build(%q) is another one", other)
		}
	}
	if bloom.Build(room[:5], 20) != b || !slices.Equal(room, want) {
		t.Errorf("Build changed something: %q", room)
	}
	if bloom.Build(room[:4], 20) == b {
		t.Error("four keys have as many bytes as five")
	}
}

// P1203
func TestMay(t *testing.T) {
	ones := strings.Repeat("\xff", 8)
	a := "\x01\x00\x00\x01\x00\x00\x01\x00\x03"
	for _, c := range []struct {
		filter, key string
		may         bool
	}{
		{"", "", true},
		{"", "x", true},
		{"\x00", "x", true},
		{"\x01", "x", true},
		{"\x1e", "x", true},
		{"\xff", "x", true},
		{"\x00\x00", "x", true},
		{"\x00\x01", "x", false},
		{"\x00\x1e", "x", false},
		{"\x00\x1f", "x", true},
		{"\x00\x80", "x", true},
		{"\x00\xff", "x", true},
		{"\xff\x01", "x", true},
		{"\xff\x1e", "x", true},
		{"\x01\x01", "", true},
		{"\xfe\x01", "", false},
		{"\x01\x1e", "", true},
		{"\xfe\x1e", "", false},
		{a, "a", true},
		{a, "", true}, // its place is the first one of a filter
		{a, "b", false},
		{"\x00" + a[1:], "a", false},
		{a[:3] + "\x00" + a[4:], "a", false},
		{a[:6] + "\x00" + a[7:], "a", false},
		{a[:8] + "\x02", "a", true},
		{a[:8] + "\x01", "a", true},
		{a[:8] + "\x00", "b", true},
		{a[:8] + "\x1f", "b", true},
		{a[1:], "a", false}, // seven bytes have other places
		{ones + "\x1e", "anything", true},
		{ones[:7] + "\x1e", "anything", true},
	} {
		if may := bloom.May(c.filter, c.key); may != c.may {
			t.Errorf("May(%x, %q): %v", c.filter, c.key, may)
		}
	}
}

// P1203: of each number of probes.
func TestMayOfEachLastByte(t *testing.T) {
	for _, size := range []int{1, 2, 8, 100} {
		noughts := make([]byte, size)
		for last := range 256 {
			for _, key := range []string{"", "a", "x\x00\xff"} {
				told := last >= 1 && last <= 30
				if may := bloom.May(string(append(noughts, byte(last))), key); may == told {
					t.Errorf("%d bytes, last byte %d: %v", size, last, may)
				}
			}
		}
	}
}

// P1204
func TestRate(t *testing.T) {
	for _, c := range []struct {
		asked, passed int
		rate          float64
	}{
		{0, 0, nan},
		{0, 5, inf},
		{0, -5, minus},
		{4, 1, 0.25},
		{1, 4, 4},
		{3, 1, 1.0 / 3},
		{5, 5, 1},
		{5, 0, 0},
		{-4, 0, below0},
		{-4, 1, -0.25},
		{4, -1, -0.25},
		{-4, -1, 0.25},
		{-1, -1, 1},
		{math.MaxInt, math.MinInt, -1},
		{math.MinInt, math.MaxInt, -1},
		{math.MaxInt, 1, 1.0 / (1 << 63)},
		{0, math.MinInt, minus},
		{0, math.MaxInt, inf},
		{1, 1<<53 + 1, 1 << 53},
	} {
		rate := bloom.Rate(c.asked, c.passed)
		if math.Float64bits(rate) != math.Float64bits(c.rate) && (rate == rate || c.rate == c.rate) {
			t.Errorf("Rate(%d, %d): %v, not %v", c.asked, c.passed, rate, c.rate)
		}
	}
}

// P1205
func TestKeysThatWereBuiltInMayBeThere(t *testing.T) {
	for _, n := range []int{1, 2, 10, 300, 5000} {
		var keys []string
		for i := range n {
			keys = append(keys, fmt.Sprint("k", i), strings.Repeat("\x00", i%50), strings.Repeat("\xff", i%300))
		}
		for _, bits := range []float64{nan, minus, -1, below0, 0, tiny, 0.1, 1, 5, 10, 33.3, 42.9, 1000, huge, inf} {
			b := bloom.Build(keys, bits)
			for i, key := range keys {
				if !bloom.May(b, key) {
					t.Errorf("%d keys, %v: number %d can't be there", n, bits, i)
				}
			}
		}
	}
}
