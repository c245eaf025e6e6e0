package ikey_test

import (
	"strings"
	"testing"

	"bedrock/api"
	"bedrock/ikey"
)

const (
	numbersOf5 = "\xff\xff\xff\xff\xff\xfa\xff\xff\xff\xff\xff\xff\xf8" // of the time 5, the place 0, the number 7
	vectorOf5  = "\x01\x00\x00\x00\x00\x00\x05"
)

// get holds what Get and Key tell of bytes against the version that is wanted.
func get(t *testing.T, b string, want api.Version, wantE api.Errno) {
	t.Helper()
	if v, e := ikey.Get(b); !same(v, want) || e != wantE {
		t.Errorf("Get(%x): %v, %d, not %v, %d", b, v, e, want, wantE)
	}
	if key, e := ikey.Key(b); key != want.Key || e != wantE {
		t.Errorf("Key(%x): %q, %d, not %q, %d", b, key, e, want.Key, wantE)
	}
}

// refused holds what Get and Key tell of bytes against what they tell of no version's.
func refused(t *testing.T, b string) {
	t.Helper()
	get(t, b, api.Version{}, api.ErrForm)
}

// P504
func TestGet(t *testing.T) {
	get(t, "r\x00\x01"+numbersOf5+vectorOf5, ver("r", 0, 7, 5), api.OK)
	get(t, "r\x00\xff\x00\x01"+numbersOf5+vectorOf5, ver("r\x00", 0, 7, 5), api.OK)
	get(t, "r\x00\xff\xff\x01\x00\xff\x00\x01"+numbersOf5+vectorOf5, ver("r\x00\xff\x01\x00", 0, 7, 5), api.OK)
	get(t, "c\x00\x01\xff\xff\xff\xff\xfe\xfd\xfe\xfe\xfd\xfc\xfb\xfa\xf9\x02\x00\x00\x00\x00\x00\x09\x00\x00\x00\x00\x01\x02", ver("c", 1, 0x010203040506, 9, 258), api.OK)
	get(t, "x\x00\x01\xff\xff\xff\xff\xff\xf6\x01\xff\xff\xff\xff\xff\xf8\x02\x00\x00\x00\x00\x00\x09\x00\x00\x00\x00\x00\x05", ver("x", api.Folded, 7, 9, 5), api.OK)
	get(t, "n\x00\x01\x00\x00\x00\x00\x00\x00\xff\x00\x00\x00\x00\x00\x00\x01\xff\xff\xff\xff\xff\xff", ver("n", 0, lastTx, latest), api.OK)
}

// P504: bytes in which one thing is wrong.
func TestGetOfNoVersion(t *testing.T) {
	for _, b := range []string{
		"",
		"x",
		"r",
		"r\x00",
		"r\x00\x01",
		"r\x00\xff",
		"\x00\x01",
		numbersOf5 + vectorOf5,
		"r" + numbersOf5 + vectorOf5,
		"\x00\x01" + numbersOf5 + vectorOf5,  // no byte of a key
		"q\x00\x01" + numbersOf5 + vectorOf5, // no key
		"\x00\xffr\x00\x01" + numbersOf5 + vectorOf5, // no key
		"r\x00\x00" + numbersOf5 + vectorOf5,         // neither a byte 0 nor an end
		"r\x00\x02" + numbersOf5 + vectorOf5,
		"r\x00\xfe" + numbersOf5 + vectorOf5,
		"r\x00\x02\x00\x01" + numbersOf5 + vectorOf5,
		"r\x00k\x00\x01" + numbersOf5 + vectorOf5,
		"r\x00\x00\x01" + numbersOf5 + vectorOf5,
		"r" + strings.Repeat("k", 64) + "\x00\x01" + numbersOf5 + vectorOf5, // too long
		"r" + strings.Repeat("\x00\xff", 64) + "\x00\x01" + numbersOf5 + vectorOf5,
		"r\x00\x01\xff\xff\xff\xff\xff\xfa\x00\xff\xff\xff\xff\xff\xf8" + vectorOf5,       // the place 255
		"r\x00\x01\xff\xff\xff\xff\xff\xfa\x02\xff\xff\xff\xff\xff\xf8" + vectorOf5,       // the place 253
		"r\x00\x01\xff\xff\xff\xff\xff\xfa\xfe\xff\xff\xff\xff\xff\xf8" + vectorOf5,       // the place 1 of one
		"r\x00\x01\xff\xff\xff\xff\xff\xfb\xff\xff\xff\xff\xff\xff\xf8" + vectorOf5,       // the time 4
		"r\x00\x01\xff\xff\xff\xff\xff\xf9\xff\xff\xff\xff\xff\xff\xf8" + vectorOf5,       // the time 6
		"r\x00\x01\xff\xff\xff\xff\xff\xfa\xff\xff\xff\xff\xff\xff\xf8\x00",               // no times
		"r\x00\x01\xff\xff\xff\xff\xff\xff\xff\xff\xff\xff\xff\xff\xf8\x00",               // no times
		"r\x00\x01\xff\xff\xff\xff\xff\xff\x01\xff\xff\xff\xff\xff\xf8\x00",               // no times
		"r\x00\x01" + numbersOf5 + "\x09" + strings.Repeat("\x00\x00\x00\x00\x00\x05", 9), // too many
		"r\x00\x01" + numbersOf5 + "\x02\x00\x00\x00\x00\x00\x05",                         // too few
		"r\x00\x01" + numbersOf5 + "\x01\x00\x00\x00\x00\x05",
		"r\x00\x01" + numbersOf5,
		"r\x00\x01" + numbersOf5 + vectorOf5 + "\x00",
		"r\x00\x01" + numbersOf5 + vectorOf5 + vectorOf5,
		"\x00r\x00\x01" + numbersOf5 + vectorOf5,
		strings.Repeat("\x00", 30),
		strings.Repeat("\xff", 30),
		strings.Repeat("r", 1<<16),
		strings.Repeat("\x00\xff", 1<<16),
	} {
		refused(t, b)
	}
}

// P504: of folded together versions the greatest time stands in front, of others their place's.
func TestGetLooksAtTheTime(t *testing.T) {
	at := "\x02\x00\x00\x00\x00\x00\x05\x00\x00\x00\x00\x00\x09"
	for time := range 20 {
		for _, c := range []struct{ place, time int }{{0, 5}, {1, 9}, {api.Folded, 9}} {
			b := "r\x00\x01\xff\xff\xff\xff\xff" + string([]byte{byte(255 - time), byte(255 - c.place)}) + "\xff\xff\xff\xff\xff\xf8" + at
			if time == c.time {
				get(t, b, ver("r", c.place, 7, 5, 9), api.OK)
			} else {
				refused(t, b)
			}
		}
	}
}

// P505
func TestVersionsAreGotAsTheyWerePut(t *testing.T) {
	for _, v := range append(versions(), near()...) {
		b, e := ikey.Put(v)
		if e != api.OK {
			t.Fatalf("Put(%v): %d", v, e)
		}
		get(t, b, v, api.OK)
	}
}

// P504: an act is not kept.
func TestGetTellsNoAct(t *testing.T) {
	v := ver("c", 0, 7, 5)
	v.Act = api.Act{Kind: api.ActAdd, Int: 5}
	b, _ := ikey.Put(v)
	get(t, b, ver("c", 0, 7, 5), api.OK)
}

// P504: bytes that are cut, or have more behind them.
func TestGetOfCutBytes(t *testing.T) {
	for _, v := range versions() {
		b, _ := ikey.Put(v)
		for n := range len(b) {
			refused(t, b[:n])
		}
		for _, tail := range []string{"\x00", "\x01", "\xff", b} {
			refused(t, b+tail)
		}
	}
}

// model reads bytes with no care whether they are right: they are Put's of that version or of none.
func model(b string) (api.Version, api.Errno) {
	v := api.Version{}
	at := 0
	for ; at < len(b); at++ {
		v.Key += b[at : at+1]
		if b[at] != 0 {
			continue
		}
		at++ // the byte 255 behind a byte 0, or the key's end
		if at < len(b) && b[at] == 1 {
			v.Key = v.Key[:len(v.Key)-1]
			break
		}
	}
	rest := []byte(b[min(at+1, len(b)):])
	rest = append(rest, make([]byte, 100)...) // of bytes that are too short comes a version with more bytes
	number := func(size int) int {
		x := 0
		for _, c := range rest[:size] {
			x = x*256 + int(c)
		}
		rest = rest[size:]
		return x
	}
	number(6)
	v.Origin = 255 - number(1)
	v.Tx = 1<<48 - 1 - number(6)
	for range min(number(1), 10) {
		v.At = append(v.At, number(6))
	}
	if !ikey.Valid(v) || modelOf(v) != b {
		return api.Version{}, api.ErrForm
	}
	return v, api.OK
}

// P504: of bytes of which one is another one, left out or doubled.
func TestGetOfChangedBytes(t *testing.T) {
	right := 0
	for _, v := range versions() {
		b, _ := ikey.Put(v)
		for i := range len(b) {
			for _, c := range []byte{0, 1, 2, 8, 9, 127, 128, 253, 254, 255, b[i] - 1, b[i] + 1, b[i] ^ 0x40} {
				changed := b[:i] + string([]byte{c}) + b[i+1:]
				want, e := model(changed)
				get(t, changed, want, e)
				if e == api.OK && changed != b {
					right++
				}
			}
			for _, changed := range []string{b[:i] + b[i+1:], b[:i] + b[i:i+1] + b[i:], b[:i] + "\x00" + b[i:]} {
				want, e := model(changed)
				get(t, changed, want, e)
			}
		}
	}
	if right == 0 {
		t.Error("no other version came of one changed byte")
	}
}

// P504: whatever the bytes are, nothing but what Put writes is a version.
func FuzzGet(f *testing.F) {
	for i, v := range versions() {
		if b, _ := ikey.Put(v); i%7 == 0 {
			f.Add(b)
		}
	}
	f.Add("")
	f.Fuzz(func(t *testing.T, b string) {
		want, e := model(b)
		get(t, b, want, e)
	})
}

// What is got is new memory.
func TestGetTwice(t *testing.T) {
	b, _ := ikey.Put(ver("r", 0, 7, 5, 6))
	v, _ := ikey.Get(b)
	w, _ := ikey.Get(b)
	v.At[0] = 9
	_ = append(v.At, 8)
	if w.At[0] != 5 {
		t.Errorf("two vectors of Get(%x) share their memory", b)
	}
}
