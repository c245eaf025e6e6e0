package block_test

import (
	"encoding/binary"
	"fmt"
	"math/rand"
	"slices"
	"strings"
	"testing"

	"bedrock/api"
	"bedrock/block"
)

// form lays pairs as the document tells it, whether they are in order or not.
func form(l pairs) string {
	b := ""
	for i, p := range l {
		shared := 0
		for i%8 != 0 && shared < min(len(p[0]), len(l[i-1][0])) && p[0][:shared+1] == l[i-1][0][:shared+1] {
			shared++
		}
		b += pair(shared, p[0][shared:], p[1])
	}
	return ended(b, len(l))
}

// loose reads pairs wherever some can be made out, whatever they are.
func loose(b string) (l pairs, ok bool) {
	if len(b) < 8 {
		return nil, false
	}
	b = b[:len(b)-8]
	ahead := ""
	for b != "" {
		var n [3]int
		for i := range n {
			v, size := binary.Uvarint([]byte(b))
			if size <= 0 || v > 1<<20 {
				return nil, false
			}
			n[i], b = int(v), b[size:]
		}
		if n[0] > len(ahead) || n[1]+n[2] > len(b) {
			return nil, false
		}
		p := [2]string{ahead[:n[0]] + b[:n[1]], b[n[1] : n[1]+n[2]]}
		l, ahead, b = append(l, p), p[0], b[n[1]+n[2]:]
	}
	return l, true
}

// isBlock tells whether bytes are Build's of some list: of the only one that can be made out of them.
func isBlock(b string) (pairs, bool) {
	l, ok := loose(b)
	if !ok || form(l) != b {
		return nil, false
	}
	for i, p := range l {
		if i > 0 && l[i-1][0] >= p[0] || len(p[0]) > api.MaxBytes || len(p[1]) > api.MaxBytes {
			return nil, false
		}
	}
	return l, len(b) <= 1<<19
}

// differs tells in what Parse and Seek are not as the model of some bytes.
func differs(b string, keys ...string) string {
	want, is := isBlock(b)
	got, e := block.Parse(b)
	if is && (e != api.OK || !slices.Equal(got, want)) || !is && (e != api.ErrCorrupt || got != nil) {
		return fmt.Sprintf("Parse(%x): %q, %d, not %q, %v", b, got, e, want, is)
	}
	for _, key := range keys {
		p, f := [2]string{}, api.ErrNone
		if i := slices.IndexFunc(want, func(p [2]string) bool { return p[0] >= key }); i >= 0 {
			p, f = want[i], api.OK
		}
		if !is {
			f = api.ErrCorrupt
		}
		if k, v, e := block.Seek(b, key); k != p[0] || v != p[1] || e != f {
			return fmt.Sprintf("Seek(%x, %q): %q, %q, %d, not %q, %d", b, key, k, v, e, p, f)
		}
	}
	return ""
}

// some tells a text of few kinds of bytes, so that keys have much in common.
func some(r *rand.Rand, most int) string {
	b := make([]byte, r.Intn(most+1))
	for i := range b {
		b[i] = "\x00ab\xff"[r.Intn(4)]
	}
	return string(b)
}

// list tells pairs in order.
func list(r *rand.Rand) pairs {
	var l pairs
	for range r.Intn(40) {
		key := some(r, 7)
		if r.Intn(8) == 0 {
			key += letters(r.Intn(400))
		}
		l = append(l, [2]string{key, some(r, 5)})
	}
	slices.SortFunc(l, func(a, b [2]string) int { return strings.Compare(a[0], b[0]) })
	return slices.CompactFunc(l, func(a, b [2]string) bool { return a[0] == b[0] })
}

// P1101 to P1103: whatever is built is as the document tells.
func TestBlockIsAsItsModel(t *testing.T) {
	for seed := range int64(3000) {
		r := rand.New(rand.NewSource(seed))
		l := list(r)
		b := form(l)
		parses(t, fmt.Sprint(seed), b, l)
		if what := differs(b, some(r, 8), some(r, 2), some(r, 4)); what != "" {
			t.Fatalf("seed %d: %s", seed, what)
		}
	}
}

// P1101: a list that is not in order, whatever it is.
func TestListsInAnyOrder(t *testing.T) {
	for seed := range int64(3000) {
		r := rand.New(rand.NewSource(seed))
		l := make(pairs, r.Intn(5))
		for i := range l {
			l[i][0] = some(r, 2)
		}
		rises := true
		for i := 1; i < len(l); i++ {
			rises = rises && l[i-1][0] < l[i][0]
		}
		b, e := block.Build(l)
		if rises && (b != form(l) || e != api.OK) || !rises && (b != "" || e != api.ErrOrder) {
			t.Errorf("Build(%q): %x, %d", l, b, e)
		}
	}
}

// P1102: bytes that are changed, with a sum that fits, are a block only if Build lays them so.
func TestChangedBytesWithASumThatFits(t *testing.T) {
	blocks := 0
	for seed := range int64(20000) {
		r := rand.New(rand.NewSource(seed))
		b := form(list(r))
		c := []byte(b[:len(b)-4])
		for range 1 + r.Intn(2) {
			switch i := r.Intn(len(c)); r.Intn(4) {
			case 0:
				c[i] ^= 1 << r.Intn(8)
			case 1:
				c[i] = byte(int(c[i]) + r.Intn(3) - 1)
			case 2:
				c = slices.Insert(c, i, "\x00\x01a\x80\xff"[r.Intn(5)])
			default:
				c = slices.Delete(c, i, min(i+1+r.Intn(3), len(c)))
			}
		}
		b = summed(string(c))
		if what := differs(b, some(r, 3)); what != "" {
			t.Fatalf("seed %d: %s", seed, what)
		}
		if _, is := isBlock(b); is {
			blocks++
		}
	}
	if blocks < 300 || blocks > 19000 {
		t.Errorf("%d are blocks", blocks)
	}
}

// P1102: all bytes of few kinds, with the number of pairs and a sum that fit.
func TestAllSmallBytes(t *testing.T) {
	kinds := "\x00\x01\x02\x80"
	var longer func(string, int)
	longer = func(b string, left int) {
		for count := range 3 {
			if what := differs(ended(b, count), "", "\x00\x01"); what != "" {
				t.Fatal(what)
			}
		}
		for i := range kinds {
			if left > 0 {
				longer(b+kinds[i:i+1], left-1)
			}
		}
	}
	longer("", 6)
}

// P1102
func FuzzParse(f *testing.F) {
	f.Add("", "", uint32(0))
	f.Add("\x00\x02\x01ab1\x01\x01\x01c2", "abz", uint32(2))
	f.Add("\x00\x00\x00\x00\x01\x01aa", "a", uint32(2))
	f.Fuzz(func(t *testing.T, b, key string, count uint32) {
		for _, b := range []string{b, summed(b), ended(b, int(count))} {
			if what := differs(b, key); what != "" {
				t.Error(what)
			}
		}
	})
}
