package vec_test

import (
	"math"
	"slices"
	"strings"
	"testing"

	"bedrock/api"
	"bedrock/vec"
)

// P304
func TestPut(t *testing.T) {
	for _, c := range []struct {
		v api.Vec
		b string
		e api.Errno
	}{
		{api.Vec{1}, "\x01\x00\x00\x00\x00\x00\x01", api.OK},
		{api.Vec{0}, "\x01\x00\x00\x00\x00\x00\x00", api.OK},
		{api.Vec{0x010203040506, 258}, "\x02\x01\x02\x03\x04\x05\x06\x00\x00\x00\x00\x01\x02", api.OK},
		{api.Vec{api.MaxTime - 1}, "\x01\xff\xff\xff\xff\xff\xff", api.OK},
		{make(api.Vec, 8), "\x08" + strings.Repeat("\x00", 48), api.OK},
		{nil, "", api.ErrArg},
		{api.Vec{}, "", api.ErrArg},
		{api.Vec{-1}, "", api.ErrArg},
		{api.Vec{api.MaxTime}, "", api.ErrArg},
		{api.Vec{0, api.MaxTime}, "", api.ErrArg},
		{api.Vec{api.MaxTime, 0}, "", api.ErrArg},
		{api.Vec{1, 2, 3, 4, 5, 6, 7, -1}, "", api.ErrArg},
		{api.Vec{math.MinInt, math.MaxInt}, "", api.ErrArg},
		{make(api.Vec, 9), "", api.ErrArg},
		{make(api.Vec, 257), "", api.ErrArg},
	} {
		before := slices.Clone(c.v)
		if b, e := vec.Put(c.v); b != c.b || e != c.e || !slices.Equal(c.v, before) {
			t.Errorf("Put(%v): %x, %d, not %x, %d", before, b, e, c.b, c.e)
		}
	}
}

// P304
func TestGet(t *testing.T) {
	for _, c := range []struct {
		b    string
		v    api.Vec
		size int
		e    api.Errno
	}{
		{"\x01\x00\x00\x00\x00\x00\x01", api.Vec{1}, 7, api.OK},
		{"\x01\x00\x00\x00\x00\x00\x01x", api.Vec{1}, 7, api.OK},
		{"\x01\xff\xff\xff\xff\xff\xff\xff\xff", api.Vec{api.MaxTime - 1}, 7, api.OK},
		{"\x02\x01\x02\x03\x04\x05\x06\x00\x00\x00\x00\x01\x02\x03", api.Vec{0x010203040506, 258}, 13, api.OK},
		{"\x08" + strings.Repeat("\x00\x00\x00\x00\x00\x09", 8), api.Vec{9, 9, 9, 9, 9, 9, 9, 9}, 49, api.OK},
		{"", nil, 0, api.ErrShort},
		{"\x01", nil, 0, api.ErrShort},
		{"\x08", nil, 0, api.ErrShort},
		{"\x01\x00\x00\x00\x00\x00", nil, 0, api.ErrShort},
		{"\x02\x00\x00\x00\x00\x00\x01", nil, 0, api.ErrShort},
		{"\x02\x00\x00\x00\x00\x00\x01\x00\x00\x00\x00\x00", nil, 0, api.ErrShort},
		{"\x00", nil, 0, api.ErrForm},
		{"\x09", nil, 0, api.ErrForm},
		{"\x80", nil, 0, api.ErrForm},
		{"\xff", nil, 0, api.ErrForm},
		{strings.Repeat("\x00", 100), nil, 0, api.ErrForm},
		{"\x09" + strings.Repeat("\x00", 54), nil, 0, api.ErrForm},
	} {
		if v, size, e := vec.Get(c.b); !slices.Equal(v, c.v) || size != c.size || e != c.e {
			t.Errorf("Get(%x): %v, %d, %d, not %v, %d, %d", c.b, v, size, e, c.v, c.size, c.e)
		}
	}
}

// P304: of each first byte, with each number of bytes behind it.
func TestGetOfEachLength(t *testing.T) {
	for first := range 256 {
		for behind := range 60 {
			b := string([]byte{byte(first)}) + strings.Repeat("\x00\x00\x00\x00\x00\x05", 10)[:behind]
			v, size, e := vec.Get(b)
			switch {
			case first < 1 || first > api.MaxNodes:
				if len(v) != 0 || size != 0 || e != api.ErrForm {
					t.Errorf("Get(%x): %v, %d, %d, not ErrForm", b, v, size, e)
				}
			case behind < 6*first:
				if len(v) != 0 || size != 0 || e != api.ErrShort {
					t.Errorf("Get(%x): %v, %d, %d, not ErrShort", b, v, size, e)
				}
			case len(v) != first || slices.Min(v) != 5 || slices.Max(v) != 5 || size != 1+6*first || e != api.OK:
				t.Errorf("Get(%x): %v, %d, %d", b, v, size, e)
			}
		}
	}
}

// P304: what is got is new memory.
func TestGetTwice(t *testing.T) {
	b, _ := vec.Put(api.Vec{1, 2})
	v, _, _ := vec.Get(b)
	w, _, _ := vec.Get(b)
	v[0] = 9
	if w[0] != 1 {
		t.Errorf("two vectors of Get(%x) share their memory", b)
	}
}

// P306
func TestVectorsAreGotAsTheyWerePut(t *testing.T) {
	l := vectors(2, times...)
	for n := 3; n <= api.MaxNodes+1; n++ {
		for i := range n {
			for _, x := range times {
				v := make(api.Vec, n)
				for k := range v {
					v[k] = 1<<(5*k) + k
				}
				v[i] = x
				l = append(l, v)
			}
		}
	}
	for _, v := range l {
		b, e := vec.Put(v)
		if !vec.Valid(v) {
			if b != "" || e != api.ErrArg {
				t.Errorf("Put(%v): %x, %d, not ErrArg", v, b, e)
			}
			continue
		}
		for _, tail := range []string{"", "\x00", "\xff\x01", b} {
			if w, size, e := vec.Get(b + tail); !slices.Equal(w, v) || size != len(b) || e != api.OK {
				t.Errorf("Get of Put(%v) and %x: %v, %d, %d", v, tail, w, size, e)
			}
		}
		for n := range len(b) {
			if w, size, e := vec.Get(b[:n]); len(w) != 0 || size != 0 || e != api.ErrShort {
				t.Errorf("Get(%x): %v, %d, %d, not ErrShort", b[:n], w, size, e)
			}
		}
	}
}
