package raw_test

import (
	"math"
	"strings"
	"testing"

	"bedrock/api"
	"bedrock/raw"
)

// texts calls f with each text of at most so many of the bytes of alphabet.
func texts(alphabet string, most int, f func(string)) {
	var longer func(string, int)
	longer = func(s string, left int) {
		f(s)
		if left == 0 {
			return
		}
		for i := range len(alphabet) {
			longer(s+alphabet[i:i+1], left-1)
		}
	}
	longer("", most)
}

// edges are numbers about each power of 2, above and below 0.
func edges() []int {
	l := []int{0, math.MaxInt, math.MinInt, math.MinInt + 1}
	for i := range 63 {
		for d := -2; d <= 2; d++ {
			l = append(l, 1<<i+d, -(1<<i + d))
		}
	}
	return l
}

// P101
func TestPut(t *testing.T) {
	for _, c := range []struct {
		v, n int
		b    string
		e    api.Errno
	}{
		{258, 2, "\x01\x02", api.OK},
		{0, 1, "\x00", api.OK},
		{255, 1, "\xff", api.OK},
		{256, 1, "", api.ErrArg},
		{1, 3, "\x00\x00\x01", api.OK},
		{0x01020304050607, 7, "\x01\x02\x03\x04\x05\x06\x07", api.OK},
		{1<<56 - 1, 7, "\xff\xff\xff\xff\xff\xff\xff", api.OK},
		{1 << 56, 7, "", api.ErrArg},
		{math.MaxInt, 7, "", api.ErrArg},
		{-1, 1, "", api.ErrArg},
		{-1, 7, "", api.ErrArg},
		{math.MinInt, 7, "", api.ErrArg},
		{0, 0, "", api.ErrArg},
		{1, 8, "", api.ErrArg},
		{1, 9, "", api.ErrArg},
		{0, -1, "", api.ErrArg},
		{0, math.MaxInt, "", api.ErrArg},
		{0, math.MinInt, "", api.ErrArg},
	} {
		if b, e := raw.Put(c.v, c.n); b != c.b || e != c.e {
			t.Errorf("Put(%d, %d): %x, %d, not %x, %d", c.v, c.n, b, e, c.b, c.e)
		}
	}
}

// P101
func TestPutGoesFromZeroToItsBound(t *testing.T) {
	for n := 1; n <= 7; n++ {
		for _, v := range edges() {
			b, e := raw.Put(v, n)
			if fits := v >= 0 && v < 1<<(8*n); fits != (e == api.OK) || fits != (len(b) == n) {
				t.Errorf("Put(%d, %d): %x, %d", v, n, b, e)
			}
		}
	}
}

// P101
func TestGet(t *testing.T) {
	for _, c := range []struct {
		b string
		v int
		e api.Errno
	}{
		{"\x01\x02", 258, api.OK},
		{"\x00", 0, api.OK},
		{"\x80", 128, api.OK},
		{"\x00\x00\x01", 1, api.OK},
		{"1234567", 0x31323334353637, api.OK},
		{"\xff\xff\xff\xff\xff\xff\xff", 1<<56 - 1, api.OK},
		{"", 0, api.ErrArg},
		{"12345678", 0, api.ErrArg},
		{strings.Repeat("\x00", 300), 0, api.ErrArg},
	} {
		if v, e := raw.Get(c.b); v != c.v || e != c.e {
			t.Errorf("Get(%x): %d, %d, not %d, %d", c.b, v, e, c.v, c.e)
		}
	}
}

// P102
func TestPutVar(t *testing.T) {
	for _, c := range []struct {
		v int
		b string
	}{
		{0, "\x00"},
		{1, "\x01"},
		{127, "\x7f"},
		{128, "\x80\x01"},
		{300, "\xac\x02"},
		{1<<14 - 1, "\xff\x7f"},
		{1 << 14, "\x80\x80\x01"},
		{1<<56 - 1, strings.Repeat("\xff", 7) + "\x7f"},
		{1 << 56, strings.Repeat("\x80", 8) + "\x01"},
		{math.MaxInt, strings.Repeat("\xff", 8) + "\x7f"},
		{-1, ""},
		{-300, ""},
		{math.MinInt, ""},
	} {
		if b := raw.PutVar(c.v); b != c.b {
			t.Errorf("PutVar(%d): %x, not %x", c.v, b, c.b)
		}
	}
}

// P102
func TestGetVar(t *testing.T) {
	on := func(n int) string { return strings.Repeat("\x80", n) }
	for _, c := range []struct {
		b       string
		v, size int
		e       api.Errno
	}{
		{"\xac\x02x", 300, 2, api.OK},
		{"\x00", 0, 1, api.OK},
		{"\x00\x00", 0, 1, api.OK},
		{"\x7f\x80", 127, 1, api.OK},
		{"\x80\x01\x80", 128, 2, api.OK},
		{on(8) + "\x01", 1 << 56, 9, api.OK},
		{on(8) + "\x7f", 127 << 56, 9, api.OK},
		{strings.Repeat("\xff", 8) + "\x7f", math.MaxInt, 9, api.OK},
		{"", 0, 0, api.ErrShort},
		{"\x80", 0, 0, api.ErrShort},
		{"\xff\xff", 0, 0, api.ErrShort},
		{on(8), 0, 0, api.ErrShort},
		{on(9), 0, 0, api.ErrForm},
		{on(9) + "\x01", 0, 0, api.ErrForm},
		{on(10), 0, 0, api.ErrForm},
		{on(300), 0, 0, api.ErrForm},
		{strings.Repeat("\xff", 9), 0, 0, api.ErrForm},
		{"\x80\x00", 0, 0, api.ErrForm},
		{"\xff\x00", 0, 0, api.ErrForm},
		{"\x80\x80\x00", 0, 0, api.ErrForm},
		{on(8) + "\x00", 0, 0, api.ErrForm},
	} {
		if v, size, e := raw.GetVar(c.b); v != c.v || size != c.size || e != c.e {
			t.Errorf("GetVar(%x): %d, %d, %d, not %d, %d, %d", c.b, v, size, e, c.v, c.size, c.e)
		}
	}
}

// P102: whatever is taken is what PutVar writes.
func TestGetVarTakesNothingElse(t *testing.T) {
	texts("\x00\x01\x7f\x80\xff", 6, func(b string) {
		v, size, e := raw.GetVar(b)
		switch e {
		case api.OK:
			if size < 1 || size > len(b) || raw.PutVar(v) != b[:size] {
				t.Errorf("GetVar(%x): %d, %d", b, v, size)
			}
		case api.ErrShort:
			if v != 0 || size != 0 || strings.ContainsAny(b, "\x00\x01\x7f") {
				t.Errorf("GetVar(%x): %d, %d, %d", b, v, size, e)
			}
		default:
			if v != 0 || size != 0 || e != api.ErrForm || !strings.Contains(b, "\x00") {
				t.Errorf("GetVar(%x): %d, %d, %d", b, v, size, e)
			}
		}
	})
}

// P104
func TestCompare(t *testing.T) {
	rising := []string{"", "\x00", "\x00\x00", "\x00a", "A", "a", "a\x00", "aa", "ab", "b", "\x7f", "\x80", "é", "\xff", "\xff\x00", "\xff\xff"}
	for i, a := range rising {
		for j, b := range rising {
			want := 0
			if i < j {
				want = -1
			} else if i > j {
				want = 1
			}
			if got := raw.Compare(a, b); got != want {
				t.Errorf("Compare(%q, %q): %d, not %d", a, b, got, want)
			}
		}
	}
}

// P107
func TestNumbersAreGotAsTheyWerePut(t *testing.T) {
	for _, v := range edges() {
		for n := 1; n <= 7; n++ {
			b, e := raw.Put(v, n)
			if e != api.OK {
				continue
			}
			if w, e := raw.Get(b); w != v || e != api.OK {
				t.Errorf("Get of Put(%d, %d): %d, %d", v, n, w, e)
			}
		}
		if v < 0 {
			continue
		}
		b := raw.PutVar(v)
		for _, tail := range []string{"", "\x00", "\xff\x01"} {
			if w, size, e := raw.GetVar(b + tail); w != v || size != len(b) || e != api.OK {
				t.Errorf("GetVar of PutVar(%d) and %x: %d, %d, %d", v, tail, w, size, e)
			}
		}
	}
}

// P107
func TestBytesAreOrderedAsTheirNumbers(t *testing.T) {
	last := ""
	for v := range 1 << 12 {
		b, _ := raw.Put(v, 2)
		if v > 0 && raw.Compare(last, b) != -1 {
			t.Fatalf("Put(%d, 2) is not behind the one ahead of it", v)
		}
		last = b
	}
}
