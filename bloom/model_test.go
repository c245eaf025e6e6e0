package bloom_test

import (
	"hash/crc32"
	"math"
	"math/big"
	"math/rand"
	"strings"
	"testing"
	"unsafe"

	"bedrock/bloom"
)

// product multiplies to the nearest float64, of two that are neither nan nor infinite.
func product(a, b float64) *big.Float {
	f := func(f float64) *big.Float { return new(big.Float).SetPrec(53).SetFloat64(f) }
	return new(big.Float).SetPrec(53).Mul(f(a), f(b))
}

// between rounds a number, down or up, and tells it from least to most.
func between(f *big.Float, up bool, least, most int64) int {
	n, exact := f.Int(nil)
	if up && exact == big.Below {
		n.Add(n, big.NewInt(1))
	}
	switch {
	case n.Cmp(big.NewInt(least)) < 0:
		return int(least)
	case n.Cmp(big.NewInt(most)) > 0:
		return int(most)
	}
	return int(n.Int64())
}

// probes is what the document says of Probes.
func probes(bits float64) int {
	switch {
	case math.IsInf(bits, 1):
		return 30
	case math.IsNaN(bits), bits < 0:
		return 1
	}
	return between(product(bits, 0.7), false, 1, 30)
}

// size is what the document says of Size.
func size(n int, bits float64) int {
	all := 64
	switch {
	case n <= 0, math.IsNaN(bits), bits < 0:
	case math.IsInf(bits, 1):
		all = 1 << 19
	default:
		all = between(product(float64(n), bits), true, 64, 1<<19)
	}
	return all/8 + (all%8+7)/8
}

// marks are the numbers of the bits that a key marks, step by step.
func marks(key string, bytes, probes int) []int {
	h := int(crc32.Checksum([]byte(key), crc32.MakeTable(crc32.Castagnoli)))
	d := (h*(1<<15) + h/(1<<17)) % (1 << 32)
	var l []int
	for range probes {
		l = append(l, h%(8*bytes))
		h = (h + d) % (1 << 32)
	}
	return l
}

// bit tells a filter's bit.
func bit(filter string, i int) bool {
	return int(filter[i/8])/[]int{1, 2, 4, 8, 16, 32, 64, 128}[i%8]%2 == 1
}

// may is what the document says of May.
func may(filter, key string) bool {
	if len(filter) < 2 || filter[len(filter)-1] < 1 || filter[len(filter)-1] > 30 {
		return true
	}
	for _, i := range marks(key, len(filter)-1, int(filter[len(filter)-1])) {
		if !bit(filter, i) {
			return false
		}
	}
	return true
}

// some tells a text of any bytes.
func some(r *rand.Rand, most int) string {
	b := make([]byte, r.Intn(most+1))
	r.Read(b)
	return string(b)
}

// number tells a float64: any one, or one near those at which something turns.
func number(r *rand.Rand) float64 {
	f := 0.0
	switch r.Intn(5) {
	case 0:
		return math.Float64frombits(r.Uint64())
	case 1:
		f = float64(r.Intn(50)) / 0.7
	case 2:
		f = float64(r.Intn(1<<20)) / 8
	case 3:
		f = math.Ldexp(1, r.Intn(200)-100)
	default:
		return r.Float64() * 64
	}
	for range r.Intn(3) {
		f = []func(float64) float64{before, behind}[r.Intn(2)](f)
	}
	return f
}

// P1201
func TestProbesAndSizeAreAsTheirModel(t *testing.T) {
	r := rand.New(rand.NewSource(1))
	for range 200000 {
		bits := number(r)
		if got, want := bloom.Probes(bits), probes(bits); got != want {
			t.Errorf("Probes(%v): %d, not %d", bits, got, want)
		}
		n := int(r.Uint64()) >> r.Intn(64)
		if got, want := bloom.Size(n, bits), size(n, bits); got != want {
			t.Errorf("Size(%d, %v): %d, not %d", n, bits, got, want)
		}
	}
}

// P1202, P1203
func TestFiltersAreAsTheirModel(t *testing.T) {
	for seed := range int64(3000) {
		r := rand.New(rand.NewSource(seed))
		keys := make([]string, r.Intn(30))
		bits := number(r)
		filter := make([]byte, size(len(keys), bits), 1<<16+1)
		for i := range keys {
			keys[i] = some(r, 20)
			for _, m := range marks(keys[i], len(filter), probes(bits)) {
				filter[m/8] |= []byte{1, 2, 4, 8, 16, 32, 64, 128}[m%8]
			}
		}
		want := string(append(filter, byte(probes(bits))))
		b := bloom.Build(keys, bits)
		if b != want {
			t.Fatalf("seed %d: Build(%q, %v): %.40x, not %.40x", seed, keys, bits, b, want)
		}
		for range 20 {
			if key := some(r, 3); bloom.May(b, key) != may(b, key) {
				t.Errorf("seed %d: May(%.40x, %q): %v", seed, b, key, !may(b, key))
			}
		}
	}
}

// P1203: whatever bytes a filter is.
func TestMayOfAnyBytes(t *testing.T) {
	told := [2]int{}
	for seed := range int64(20000) {
		r := rand.New(rand.NewSource(seed))
		b := []byte(some(r, 70))
		for i := range b {
			b[i] |= byte(r.Intn(256)) | byte(r.Intn(256)) // so that not all keys miss one of their bits
		}
		b = append(b, byte(r.Intn(33)))
		key := some(r, 5)
		want := may(string(b), key)
		if got := bloom.May(string(b), key); got != want {
			t.Errorf("May(%x, %q): %v", b, key, got)
		}
		if want {
			told[1]++
		} else {
			told[0]++
		}
	}
	if told[0] < 2000 || told[1] < 2000 {
		t.Errorf("%d can't be there, %d may be", told[0], told[1])
	}
}

// P1203: each bit counts that the key marks, and no other one.
func TestMayOfOneBit(t *testing.T) {
	for seed := range int64(100) {
		r := rand.New(rand.NewSource(seed))
		key, bytes, n := some(r, 9), 1+r.Intn(40), 1+r.Intn(30)
		none, all := make([]byte, bytes+1), []byte(strings.Repeat("\xff", bytes+1))
		own := map[int]int{}
		for _, m := range marks(key, bytes, n) {
			none[m/8] |= 1 << (m % 8)
			own[m] = 1
		}
		none[bytes], all[bytes] = byte(n), byte(n)
		for i := range 8 * bytes {
			all[i/8] ^= 1 << (i % 8)
			none[i/8] ^= 1 << (i % 8)
			if want := own[i] == 0; bloom.May(string(all), key) != want || bloom.May(string(none), key) != want {
				t.Errorf("%q in %d bytes by %d probes: bit %d tells %v", key, bytes, n, i, !want)
			}
			all[i/8] ^= 1 << (i % 8)
			none[i/8] ^= 1 << (i % 8)
		}
	}
}

// P1203: a filter with as many bits as there are sums, or more. Few of its
// pages are ever touched, so it takes little memory.
func TestMayOfAVeryLongFilter(t *testing.T) {
	const key = "123456789"
	all := make([]byte, 1<<30)
	for _, bytes := range []int{1 << 29, 1<<30 - 1} {
		b := all[:bytes+1]
		b[bytes] = 30
		filter := unsafe.String(&b[0], len(b))
		l := marks(key, bytes, 30)
		for _, m := range l {
			if bloom.May(filter, key) {
				t.Errorf("%d bytes: %q may be there, but for bit %d", bytes, key, m)
			}
			b[m/8] |= 1 << (m % 8)
		}
		if !bloom.May(filter, key) {
			t.Errorf("%d bytes: %q can't be there", bytes, key)
		}
		for _, m := range l {
			b[m/8] = 0
		}
	}
}

// P1202, P1203, P1205
func FuzzBloom(f *testing.F) {
	f.Add("", "", 0.0)
	f.Add("a", "b", 10.0)
	f.Add("\x00\x1e", "\x00\x1f", math.Inf(1))
	f.Fuzz(func(t *testing.T, a, b string, bits float64) {
		keys := strings.Split(a, "\x00")
		filter := bloom.Build(keys, bits)
		for _, key := range append(keys, b) {
			for _, filter := range []string{filter, a, b} {
				if bloom.May(filter, key) != may(filter, key) {
					t.Errorf("May(%.40x, %q): %v", filter, key, !may(filter, key))
				}
			}
		}
		for _, key := range keys {
			if !bloom.May(filter, key) {
				t.Errorf("%q can't be there", key)
			}
		}
	})
}
