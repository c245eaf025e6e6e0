package sst_test

import (
	"fmt"
	"math"
	"math/rand"
	"slices"
	"strings"
	"testing"

	"bedrock/api"
	"bedrock/bloom"
	"bedrock/sst"
)

// headOf tells a key's head, byte by byte.
func headOf(key string) string {
	for i := 1; i < len(key); i++ {
		if key[i-1] == 0 && key[i] == 1 {
			return key[:i+1]
		}
	}
	return key
}

// blocksOf tells how many blocks pairs take.
func blocksOf(l pairs) int {
	n, size := 0, 1024
	for _, p := range l {
		if size >= 1024 {
			n, size = n+1, 0
		}
		size += len(p[0]) + len(p[1])
	}
	return n
}

// filterOf tells the filter of pairs.
func filterOf(l pairs, bits float64) string {
	var heads []string
	seen := map[string]int{}
	for _, p := range l {
		h := headOf(p[0])
		if seen[h] == 0 {
			heads = append(heads, h)
		}
		seen[h]++
	}
	return bloom.Build(heads, bits)
}

// differs tells in what a table is not as the pairs that it is to have, and
// their filter, by what it tells of a key.
func differs(x *sst.Table, l pairs, filter, key string, most int) string {
	var rest pairs
	v, e := "", api.ErrNone
	for _, p := range l {
		if p[0] == key {
			v, e = p[1], api.OK
		}
		if p[0] >= key && (most < 0 || len(rest) < most) {
			rest = append(rest, p)
		}
	}
	if w, f := x.Get(key); w != v || f != e {
		return fmt.Sprintf("Get(%q): %q, %d, not %q, %d", key, w, f, v, e)
	}
	if got := x.From(key, most); !slices.Equal(got, rest) {
		return fmt.Sprintf("From(%q, %d): %q, not %q", key, most, got, rest)
	}
	if x.May(key) != bloom.May(filter, key) || x.May(headOf(key)) != bloom.May(filter, headOf(key)) {
		return fmt.Sprintf("May(%q): %v", key, x.May(key))
	}
	if x.Count() != len(l) || x.First() != l[0][0] || x.Last() != l[len(l)-1][0] {
		return fmt.Sprintf("%d pairs, %q to %q, not %q", x.Count(), x.First(), x.Last(), l)
	}
	return ""
}

// some tells a text of few kinds of bytes, so that keys have heads in common.
func some(r *rand.Rand, most int) string {
	b := make([]byte, r.Intn(most+1))
	for i := range b {
		b[i] = "\x00\x01ab\xff"[r.Intn(5)]
	}
	return string(b)
}

// list tells pairs in order, at least one.
func list(r *rand.Rand) pairs {
	l := pairs{{some(r, 3), ""}}
	for range r.Intn(60) {
		value := some(r, 5)
		if r.Intn(4) == 0 {
			value = letters(r.Intn(800))
		}
		l = append(l, [2]string{some(r, 6), value})
	}
	slices.SortFunc(l, func(a, b [2]string) int { return strings.Compare(a[0], b[0]) })
	return slices.CompactFunc(l, func(a, b [2]string) bool { return a[0] == b[0] })
}

// bitsOf tells how many bits a key is to take.
func bitsOf(r *rand.Rand) float64 {
	if r.Intn(2) == 0 {
		return r.Float64() * 20
	}
	return bits()[r.Intn(len(bits()))]
}

// P1301 to P1303, P1305: whatever is written is told.
func TestTableIsAsItsModel(t *testing.T) {
	for seed := range int64(2000) {
		r := rand.New(rand.NewSource(seed))
		l, bits := list(r), bitsOf(r)
		filter := filterOf(l, bits)
		x := open(t, write(t, l, bits))
		if n := blocksOf(l); x.Blocks() != n {
			t.Fatalf("seed %d: %d blocks, not %d", seed, x.Blocks(), n)
		}
		for range 20 {
			key := some(r, 6)
			if r.Intn(2) == 0 {
				key = l[r.Intn(len(l))][0]
			}
			if what := differs(x, l, filter, key, r.Intn(len(l)+3)-1); what != "" {
				t.Fatalf("seed %d: %s", seed, what)
			}
		}
		for _, p := range l {
			if !x.May(headOf(p[0])) {
				t.Errorf("seed %d: %q can't be there", seed, p[0])
			}
		}
	}
}

// P1301: a list that is not in order, whatever it is.
func TestListsInAnyOrder(t *testing.T) {
	for seed := range int64(3000) {
		r := rand.New(rand.NewSource(seed))
		l := make(pairs, 1+r.Intn(4))
		for i := range l {
			l[i][0] = some(r, 2)
		}
		want := api.OK
		for i := 1; i < len(l); i++ {
			if l[i-1][0] >= l[i][0] {
				want = api.ErrOrder
			}
		}
		if b, e := sst.Write(l, 10); e != want || (b == "") != (e != api.OK) {
			t.Errorf("Write(%q): %x, %d", l, b, e)
		}
	}
}

// whole tells in what a table, whatever bytes it is of, is none.
func whole(x *sst.Table) string {
	l := x.From("", -1)
	if len(l) == 0 || x.Blocks() < 1 || x.Blocks() > len(l) {
		return fmt.Sprintf("%d pairs in %d blocks", len(l), x.Blocks())
	}
	for i, p := range l {
		if i > 0 && l[i-1][0] >= p[0] {
			return fmt.Sprintf("%q is behind %q", p[0], l[i-1][0])
		}
		if v, e := x.Get(p[0]); v != p[1] || e != api.OK {
			return fmt.Sprintf("Get(%q): %q, %d", p[0], v, e)
		}
		if !x.May(headOf(p[0])) {
			return fmt.Sprintf("%q can't be there", p[0])
		}
	}
	if x.Count() != len(l) || x.First() != l[0][0] || x.Last() != l[len(l)-1][0] {
		return fmt.Sprintf("%d pairs, %q to %q, not %q", x.Count(), x.First(), x.Last(), l)
	}
	return ""
}

// opens holds Open against what it says of any bytes.
func opens(t *testing.T, b string) bool {
	t.Helper()
	x, e := sst.Open(b)
	fits := len(b) >= 4 && summed(b[:len(b)-4]) == b
	switch {
	case e == api.ErrCorrupt && x == nil:
		return false
	case e != api.OK || x == nil || !fits:
		t.Errorf("Open(%x): %v, %d", b, x != nil, e)
		return false
	}
	if what := whole(x); what != "" {
		t.Errorf("Open(%x): %s", b, what)
	}
	return true
}

// P1302, P1305: bytes that are changed, with the sum as it was and with one that fits.
func TestChangedBytes(t *testing.T) {
	tables := 0
	for seed := range int64(10000) {
		r := rand.New(rand.NewSource(seed))
		l := list(r)
		b := write(t, l[:min(len(l), 1+r.Intn(20))], 2)
		i := r.Intn(len(b))
		refused(t, fmt.Sprint(seed), b[:i]+string([]byte{b[i] ^ byte(1+r.Intn(255))})+b[i+1:])
		c := []byte(b[:len(b)-4])
		for range 1 + r.Intn(2) {
			switch i := r.Intn(len(c)); r.Intn(4) {
			case 0:
				c[i] ^= 1 << r.Intn(8)
			case 1:
				c[i] = byte(int(c[i]) + r.Intn(3) - 1)
			case 2:
				c = slices.Insert(c, i, "\x00\x01a\x80\xff"[r.Intn(5)])
			default:
				c = slices.Delete(c, i, min(i+1+r.Intn(3), len(c)))
			}
		}
		if opens(t, summed(string(c))) {
			tables++
		}
	}
	if tables < 50 || tables > 9000 {
		t.Errorf("%d are tables", tables)
	}
}

// P1301, P1302, P1305
func FuzzTable(f *testing.F) {
	f.Add("", "", 0.0)
	f.Add("a\x00\x01b", "c", 10.0)
	f.Add("\x00\x00\x00\x01", "\x00\x00\x00\x00", math.NaN())
	f.Fuzz(func(t *testing.T, a, b string, bits float64) {
		opens(t, a)
		opens(t, summed(a))
		l := pairs{{a, b}}
		if a < b {
			l = append(l, [2]string{b, a})
		}
		if len(a)+len(b) < 1<<16 {
			x := open(t, write(t, l, bits))
			if what := differs(x, l, filterOf(l, bits), b, -1); what != "" {
				t.Error(what)
			}
		}
		table, _ := sst.Write(l, 1)
		for i := range min(len(table), 100) {
			opens(t, summed(table[:i]+b+table[min(len(table), i+len(a)):]))
		}
	})
}
