package ikey_test

import (
	"cmp"
	"encoding/binary"
	"math"
	"slices"
	"strings"
	"testing"

	"bedrock/api"
	"bedrock/ikey"
	"bedrock/raw"
	"bedrock/stamp"
)

const (
	latest = api.MaxTime - 1
	lastTx = 1<<48 - 1
)

// ver makes a version.
func ver(key string, origin, tx int, at ...int) api.Version {
	return api.Version{Key: key, At: at, Origin: origin, Tx: tx}
}

// same holds two versions against each other, to the last field.
func same(a, b api.Version) bool {
	return a.Key == b.Key && slices.Equal(a.At, b.At) && a.Origin == b.Origin && a.Tx == b.Tx && a.Act == b.Act
}

// keys are keys of all kinds, rising.
var keys = []string{
	"c", "c\x00", "c\x00\x00", "c\x00\x01", "c\x00\xff", "c\x01", "c\xff",
	"n", "n\x00\x01\x00\x01", "n0",
	"r", "r\x00", "r\x00" + strings.Repeat("\x00", 62), "r\x00\x01", "r\x00r", "r\x00\xfe", "r\x00\xff", "r\x00\xff\x00", "r\x00\xff\x01", "r\x01", "r\x01\x00", "r" + strings.Repeat("k", 62), "r" + strings.Repeat("k", 63), "r\xff", "r\xff" + strings.Repeat("\xff", 62),
	"t", "tt", "x", "x\x00\x02",
}

// noKeys are bytes that are no keys.
var noKeys = []string{"", "q", "R", "s", "\x00", "\x00r", " r", "\xff", "1", "r" + strings.Repeat("k", 64), "r" + strings.Repeat("\x00", 64), strings.Repeat("n", 300), "qr", "\u0442"}

// numbers are looked at in each field of a version: valid ones, their edges, and others.
var numbers = []int{0, 1, 2, 7, 8, 9, 253, 254, 255, 256, 257, 0x010203040506, latest - 1, latest, api.MaxTime, api.MaxTime + 1, -1, -2, -254, -256, math.MaxInt, math.MinInt}

// versions are valid ones, of each number of places.
func versions() []api.Version {
	l := []api.Version{}
	for i, key := range keys {
		n := i%api.MaxNodes + 1
		at := make(api.Vec, n)
		for k := range at {
			at[k] = 0x0a0b0c<<k + 5*i
		}
		for origin := range n {
			l = append(l, ver(key, origin, i, at...), ver(key, origin, lastTx-i, at...))
		}
		l = append(l, ver(key, api.Folded, 0x060504030201, at...))
	}
	for n := 1; n <= api.MaxNodes; n++ {
		for origin := range n {
			at := make(api.Vec, n)
			l = append(l, ver("r", origin, 0, at...))
			at[origin] = latest
			l = append(l, ver("r", origin, lastTx, at...), ver("r", api.Folded, 0, at...))
		}
	}
	return l
}

// P501
func TestIsKey(t *testing.T) {
	for _, key := range keys {
		if !ikey.IsKey(key) {
			t.Errorf("IsKey(%q): false", key)
		}
	}
	for _, key := range noKeys {
		if ikey.IsKey(key) {
			t.Errorf("IsKey(%q): true", key)
		}
	}
}

// P501: of each first byte and each length.
func TestIsKeyOfEachLength(t *testing.T) {
	for first := range 256 {
		for size := 1; size <= 130; size++ {
			for _, c := range []string{"r", "\x00", "\xff"} {
				key := string([]byte{byte(first)}) + strings.Repeat(c, size-1)
				want := strings.ContainsRune("rtcxn", rune(first)) && size <= 64
				if is := ikey.IsKey(key); is != want {
					t.Fatalf("IsKey(%q): %t", key, is)
				}
			}
		}
	}
}

// P501
func TestHead(t *testing.T) {
	for _, c := range []struct{ key, head string }{
		{"", "\x00\x01"},
		{"r", "r\x00\x01"},
		{"r\x00", "r\x00\xff\x00\x01"},
		{"r\x00\x00k", "r\x00\xff\x00\xffk\x00\x01"},
		{"r\x00\xff", "r\x00\xff\xff\x00\x01"},
		{"r\x00\x01", "r\x00\xff\x01\x00\x01"},
		{"r\x01\xff", "r\x01\xff\x00\x01"},
		{"\x00", "\x00\xff\x00\x01"},
		{"\x00r", "\x00\xffr\x00\x01"},
		{"no key", "no key\x00\x01"},
		{"\xff\xfe\x80", "\xff\xfe\x80\x00\x01"},
		{strings.Repeat("\x00", 300), strings.Repeat("\x00\xff", 300) + "\x00\x01"},
		{strings.Repeat("r", 300), strings.Repeat("r", 300) + "\x00\x01"},
	} {
		if head := ikey.Head(c.key); head != c.head {
			t.Errorf("Head(%q): %q, not %q", c.key, head, c.head)
		}
	}
}

// P502: whatever is wrong in one field is enough, and what is right in one depends on no more than its vector.
func TestValid(t *testing.T) {
	for _, c := range []struct {
		v     api.Version
		valid bool
	}{
		{ver("r", 0, 0, 0), true},
		{ver("r", 0, 7, 5), true},
		{ver("r", 0, lastTx, latest), true},
		{ver("r", 1, 0, 5), false},
		{ver("r", 1, 0, 5, 6), true},
		{ver("r", 2, 0, 5, 6), false},
		{ver("r", 7, 0, 1, 2, 3, 4, 5, 6, 7, 8), true},
		{ver("r", 8, 0, 1, 2, 3, 4, 5, 6, 7, 8), false},
		{ver("r", 8, 0, 1, 2, 3, 4, 5, 6, 7, 8, 9), false},
		{ver("r", 0, 0, 1, 2, 3, 4, 5, 6, 7, 8, 9), false},
		{ver("r", api.Folded, 0, 1, 2, 3, 4, 5, 6, 7, 8, 9), false},
		{ver("r", api.Folded, 0, 5), true},
		{ver("r", api.Folded, 0, 1, 2, 3, 4, 5, 6, 7, 8), true},
		{ver("r", 253, 0, 5), false},
		{ver("r", 255, 0, 5), false},
		{ver("r", 253, 0, make([]int, 254)...), false},
		{ver("r", -1, 0, 5), false},
		{ver("r", -2, 0, 5), false},
		{ver("r", math.MinInt, 0, 5), false},
		{ver("r", math.MaxInt, 0, 5), false},
		{ver("r", 0, -1, 5), false},
		{ver("r", 0, 1<<48, 5), false},
		{ver("r", 0, math.MinInt, 5), false},
		{ver("r", 0, math.MaxInt, 5), false},
		{ver("r", 0, 0), false},
		{ver("r", api.Folded, 0), false},
		{ver("r", 0, 0, -1), false},
		{ver("r", 0, 0, api.MaxTime), false},
		{ver("r", 0, 0, 5, -1), false},
		{ver("r", 1, 0, api.MaxTime, 5), false},
		{ver("", 0, 0, 5), false},
		{ver("q", 0, 0, 5), false},
		{ver("r"+strings.Repeat("k", 63), 0, 0, 5), true},
		{ver("r"+strings.Repeat("k", 64), 0, 0, 5), false},
		{api.Version{}, false},
	} {
		if valid := ikey.Valid(c.v); valid != c.valid {
			t.Errorf("Valid(%v): %t", c.v, valid)
		}
	}
}

// P502: of each number in each field.
func TestValidLooksAtEachField(t *testing.T) {
	for _, n := range []int{1, 2, 3, 8} {
		for _, x := range numbers {
			at := make(api.Vec, n)
			if valid := ikey.Valid(ver("r", x, 0, at...)); valid != (x >= 0 && x < n || x == 254) {
				t.Errorf("Valid of the Origin %d of %d: %t", x, n, valid)
			}
			if valid := ikey.Valid(ver("r", 0, x, at...)); valid != (x >= 0 && x < 1<<48) {
				t.Errorf("Valid of the Tx %d: %t", x, valid)
			}
			for i := range n {
				at[i] = x
				for _, origin := range []int{0, n - 1, api.Folded} {
					if valid := ikey.Valid(ver("r", origin, 0, at...)); valid != (x >= 0 && x < 1<<48) {
						t.Errorf("Valid of the At %v: %t", at, valid)
					}
				}
				at[i] = 0
			}
		}
	}
	for _, key := range append(slices.Clone(keys), noKeys...) {
		if valid := ikey.Valid(ver(key, 0, 0, 5)); valid != ikey.IsKey(key) {
			t.Errorf("Valid of the key %q: %t", key, valid)
		}
	}
}

// P502, P503: an act is not looked at, one that can't be neither.
func TestActIsNotLookedAt(t *testing.T) {
	v := ver("r", 0, 7, 5)
	want, _ := ikey.Put(v)
	for _, a := range []api.Act{
		{Kind: api.ActAdd, Int: 5},
		{Kind: -1},
		{Kind: math.MaxInt, Num: math.NaN(), Int: math.MinInt, Text: strings.Repeat("t", 5000)},
	} {
		v.Act = a
		if b, e := ikey.Put(v); !ikey.Valid(v) || b != want || e != api.OK {
			t.Errorf("of the act %v: %t; %x, %d, not %x", a, ikey.Valid(v), b, e, want)
		}
	}
}

// P503
func TestPut(t *testing.T) {
	for _, c := range []struct {
		v api.Version
		b string
		e api.Errno
	}{
		{ver("r", 0, 7, 5), "r\x00\x01\xff\xff\xff\xff\xff\xfa\xff\xff\xff\xff\xff\xff\xf8\x01\x00\x00\x00\x00\x00\x05", api.OK},
		{ver("r", 0, 0, 0), "r\x00\x01\xff\xff\xff\xff\xff\xff\xff\xff\xff\xff\xff\xff\xff\x01\x00\x00\x00\x00\x00\x00", api.OK},
		{ver("r", 0, lastTx, latest), "r\x00\x01\x00\x00\x00\x00\x00\x00\xff\x00\x00\x00\x00\x00\x00\x01\xff\xff\xff\xff\xff\xff", api.OK},
		{ver("r\x00", 0, 0, 0), "r\x00\xff\x00\x01\xff\xff\xff\xff\xff\xff\xff\xff\xff\xff\xff\xff\xff\x01\x00\x00\x00\x00\x00\x00", api.OK},
		{ver("c", 1, 0x010203040506, 9, 258), "c\x00\x01\xff\xff\xff\xff\xfe\xfd\xfe\xfe\xfd\xfc\xfb\xfa\xf9\x02\x00\x00\x00\x00\x00\x09\x00\x00\x00\x00\x01\x02", api.OK},
		{ver("x", api.Folded, 7, 5, 9), "x\x00\x01\xff\xff\xff\xff\xff\xf6\x01\xff\xff\xff\xff\xff\xf8\x02\x00\x00\x00\x00\x00\x05\x00\x00\x00\x00\x00\x09", api.OK},
		{ver("x", api.Folded, 7, 9, 5), "x\x00\x01\xff\xff\xff\xff\xff\xf6\x01\xff\xff\xff\xff\xff\xf8\x02\x00\x00\x00\x00\x00\x09\x00\x00\x00\x00\x00\x05", api.OK},
		{ver("n", 2, 1, 9, 8, 7), "n\x00\x01\xff\xff\xff\xff\xff\xf8\xfd\xff\xff\xff\xff\xff\xfe\x03\x00\x00\x00\x00\x00\x09\x00\x00\x00\x00\x00\x08\x00\x00\x00\x00\x00\x07", api.OK},
		{ver("q", 0, 7, 5), "", api.ErrArg},
		{ver("", 0, 7, 5), "", api.ErrArg},
		{ver("r", 1, 7, 5), "", api.ErrArg},
		{ver("r", -1, 7, 5), "", api.ErrArg},
		{ver("r", 255, 7, 5), "", api.ErrArg},
		{ver("r", math.MinInt, 7, 5), "", api.ErrArg},
		{ver("r", 0, -1, 5), "", api.ErrArg},
		{ver("r", 0, 1<<48, 5), "", api.ErrArg},
		{ver("r", 0, 7), "", api.ErrArg},
		{ver("r", api.Folded, 7), "", api.ErrArg},
		{ver("r", 0, 7, -1), "", api.ErrArg},
		{ver("r", 0, 7, api.MaxTime), "", api.ErrArg},
		{api.Version{}, "", api.ErrArg},
	} {
		if b, e := ikey.Put(c.v); b != c.b || e != c.e {
			t.Errorf("Put(%v): %x, %d, not %x, %d", c.v, b, e, c.b, c.e)
		}
	}
}

// modelOf is a valid version's bytes by the document's words.
func modelOf(v api.Version) string {
	b := []byte{}
	for _, c := range []byte(v.Key) {
		b = append(b, c)
		if c == 0 {
			b = append(b, 255)
		}
	}
	b = append(b, 0, 1)
	// Eight bytes each, the first two of them cut away.
	six := func(x int) { b = append(b, binary.BigEndian.AppendUint64(nil, uint64(x))[2:]...) }
	time := 0
	for i, x := range v.At {
		if i == v.Origin || v.Origin == 254 && x > time {
			time = x
		}
	}
	six(1<<48 - 1 - time)
	b = append(b, byte(255-v.Origin))
	six(1<<48 - 1 - v.Tx)
	b = append(b, byte(len(v.At)))
	for _, x := range v.At {
		six(x)
	}
	return string(b)
}

// P503
func TestPutByTheDocument(t *testing.T) {
	for _, v := range versions() {
		if b, e := ikey.Put(v); b != modelOf(v) || e != api.OK {
			t.Errorf("Put(%v): %x, %d, not %x", v, b, e, modelOf(v))
		}
	}
}

// What is handed in stays as it was, the room behind it too.
func TestPutLeavesItsVector(t *testing.T) {
	for _, origin := range []int{0, 1, 2, api.Folded} {
		whole := []int{9, 3, 71, 72}
		v := ver("r", origin, 7, whole[:2]...)
		ikey.Put(v)
		ikey.Valid(v)
		if !slices.Equal(whole, []int{9, 3, 71, 72}) {
			t.Errorf("Put, Valid(%v): %v", v, whole)
		}
	}
}

// order is that of two versions by the document's words.
func order(v, w api.Version) int {
	if v.Key != w.Key {
		return cmp.Compare(v.Key, w.Key)
	}
	time := func(v api.Version) int {
		if v.Origin == 254 {
			return slices.Max(v.At)
		}
		return v.At[v.Origin]
	}
	switch {
	case stamp.Greater(time(v), v.Origin, v.Tx, time(w), w.Origin, w.Tx):
		return -1
	case stamp.Greater(time(w), w.Origin, w.Tx, time(v), v.Origin, v.Tx):
		return 1
	case len(v.At) != len(w.At):
		return cmp.Compare(len(v.At), len(w.At))
	}
	return slices.Compare(v.At, w.At)
}

// near are versions of few keys, places, numbers and times: many of them have much in common.
func near() []api.Version {
	l := []api.Version{}
	vectors := []api.Vec{{0}, {1}, {255}, {256}, {latest}, {0, 0}, {1, 0}, {0, 1}, {1, 1}, {256, 255}, {255, 256}, {latest, 0}, {0, latest}, {1, 0, 0}, {0, 0, 1}, {1, 1, 1}}
	for _, key := range []string{"c", "r", "r\x00", "r\x00\x00", "r\x01"} {
		for _, at := range vectors {
			for _, tx := range []int{0, 1, 255, 256, lastTx} {
				for origin := range at {
					l = append(l, ver(key, origin, tx, at...))
				}
				l = append(l, ver(key, api.Folded, tx, at...))
			}
		}
	}
	return l
}

// P505
func TestOrder(t *testing.T) {
	l := near()
	b := make([]string, len(l))
	for i, v := range l {
		b[i], _ = ikey.Put(v)
	}
	for i, v := range l {
		for k, w := range l {
			if got, want := raw.Compare(b[i], b[k]), order(v, w); got != want {
				t.Fatalf("%v and %v: %d, not %d", v, w, got, want)
			}
		}
	}
}

// P505: a lesser key's bytes come first, whatever else stands in them, and all of a key begin with its head alone.
func TestOrderOfKeys(t *testing.T) {
	for i, key := range keys {
		if i > 0 && raw.Compare(keys[i-1], key) != -1 {
			t.Fatalf("%q and %q don't rise", keys[i-1], key)
		}
		for k, other := range keys {
			least, _ := ikey.Put(ver(key, 0, lastTx, latest))
			greatest, _ := ikey.Put(ver(other, 0, 0, 0, 0))
			if i > k && raw.Compare(greatest, least) != -1 {
				t.Errorf("of %q: %x, not ahead of %x", other, greatest, least)
			}
			for _, b := range []string{least, greatest} {
				if begins := strings.HasPrefix(b, ikey.Head(key)); begins != (b == least || i == k) {
					t.Errorf("%x begins with the head of %q: %t", b, key, begins)
				}
			}
		}
	}
}
