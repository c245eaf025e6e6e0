package op_test

import (
	"encoding/binary"
	"math"
	"strings"
	"testing"

	"bedrock/api"
	"bedrock/op"
	"bedrock/real"
)

// P602
func TestPut(t *testing.T) {
	long := strings.Repeat("x", 1025)
	for _, c := range []struct {
		a api.Act
		b string
		e api.Errno
	}{
		{set(1), "\x00n\xbf\xf0\x00\x00\x00\x00\x00\x00", api.OK},
		{set(0), "\x00n\x80\x00\x00\x00\x00\x00\x00\x00", api.OK},
		{set(below0), "\x00n\x7f\xff\xff\xff\xff\xff\xff\xff", api.OK},
		{set(nan), "\x00n\x00\x00\x00\x00\x00\x00\x00\x00", api.OK},
		{set(-nan), "\x00n\x00\x00\x00\x00\x00\x00\x00\x00", api.OK},
		{text("ab"), "\x00tab", api.OK},
		{text("\x00"), "\x00t\x00", api.OK},
		{text(long[1:]), "\x00t" + long[1:], api.OK},
		{add(0), "\x01\x00\x00\x00\x00\x00\x00\x00\x00", api.OK},
		{add(-2), "\x01\xff\xff\xff\xff\xff\xff\xff\xfe", api.OK},
		{add(0x0102030405060708), "\x01\x01\x02\x03\x04\x05\x06\x07\x08", api.OK},
		{add(math.MaxInt), "\x01\x7f\xff\xff\xff\xff\xff\xff\xff", api.OK},
		{add(math.MinInt), "\x01\x80\x00\x00\x00\x00\x00\x00\x00", api.OK},
		{top(inf), "\x02\xff\xf0\x00\x00\x00\x00\x00\x00", api.OK},
		{top(0), "\x02\x80\x00\x00\x00\x00\x00\x00\x00", api.OK},
		{low(minus), "\x03\x00\x0f\xff\xff\xff\xff\xff\xff", api.OK},
		{low(below0), "\x03\x7f\xff\xff\xff\xff\xff\xff\xff", api.OK},
		{clear, "\x04", api.OK},
		{text(long), "", api.ErrKind},
		{api.Act{Num: 1, Text: "a"}, "", api.ErrKind},
		{api.Act{Num: below0, Text: "a"}, "", api.ErrKind},
		{api.Act{Num: nan, Text: "a"}, "", api.ErrKind},
		{api.Act{Int: 1}, "", api.ErrKind},
		{api.Act{Kind: 1, Num: below0}, "", api.ErrKind},
		{api.Act{Kind: 1, Int: 1, Text: "a"}, "", api.ErrKind},
		{api.Act{Kind: 2, Text: "a"}, "", api.ErrKind},
		{api.Act{Kind: 3, Int: 1}, "", api.ErrKind},
		{api.Act{Kind: 4, Num: nan}, "", api.ErrKind},
		{api.Act{Kind: 4, Int: 1}, "", api.ErrKind},
		{api.Act{Kind: 4, Text: "a"}, "", api.ErrKind},
		{api.Act{Kind: 5}, "", api.ErrKind},
		{api.Act{Kind: -1}, "", api.ErrKind},
		{api.Act{Kind: 256}, "", api.ErrKind},
		{api.Act{Kind: math.MinInt}, "", api.ErrKind},
	} {
		if b, e := op.Put(c.a); b != c.b || e != c.e {
			t.Errorf("Put(%.60v): %.60q, %d, not %.60q, %d", c.a, b, e, c.b, c.e)
		}
	}
}

// bytesOf are a right act's bytes by the document's words.
func bytesOf(a api.Act) string {
	b := []byte{byte(a.Kind)}
	switch {
	case a.Kind == 0 && a.Text != "":
		return string(append(append(b, 't'), a.Text...))
	case a.Kind == 0:
		return string(append(append(b, 'n'), real.Put(a.Num)...))
	case a.Kind == 1:
		return string(binary.BigEndian.AppendUint64(b, uint64(a.Int)))
	case a.Kind == 2, a.Kind == 3:
		return string(append(b, real.Put(a.Num)...))
	}
	return string(b)
}

// P602: of all fields together.
func TestPutByTheDocument(t *testing.T) {
	for _, a := range acts() {
		want, wantE := "", api.ErrKind
		if right(a) {
			want, wantE = bytesOf(a), api.OK
		}
		if b, e := op.Put(a); b != want || e != wantE {
			t.Fatalf("Put(%.60v): %.60q, %d, not %.60q, %d", a, b, e, want, wantE)
		}
	}
}

// model reads bytes with no care whether they are right: they are Put's of that act or of none.
func model(b string) (api.Act, api.Errno) {
	padded := b + strings.Repeat("\x00", 10)
	a := api.Act{Kind: int(padded[0])}
	eight := func(from int) uint64 { return binary.BigEndian.Uint64([]byte(padded[from:])) }
	num := func(x uint64) float64 {
		switch {
		case x == 0:
			return nan
		case x>>63 == 1:
			return math.Float64frombits(x - 1<<63)
		}
		return math.Float64frombits(math.MaxUint64 - x)
	}
	switch {
	case a.Kind == 0 && padded[1] == 't':
		a.Text = b[2:]
	case a.Kind == 0:
		a.Num = num(eight(2))
	case a.Kind == 1:
		a.Int = int(eight(1))
	case a.Kind == 2, a.Kind == 3:
		a.Num = num(eight(1))
	}
	if !right(a) || bytesOf(a) != b {
		return api.Act{}, api.ErrForm
	}
	return a, api.OK
}

// get holds what Get tells of bytes against what is wanted.
func get(t *testing.T, b string, want api.Act, wantE api.Errno) {
	t.Helper()
	if a, e := op.Get(b); !sameAct(a, want) || e != wantE {
		t.Errorf("Get(%.60q): %.60v, %d, not %.60v, %d", b, a, e, want, wantE)
	}
}

// P602
func TestGet(t *testing.T) {
	get(t, "\x00n\xbf\xf0\x00\x00\x00\x00\x00\x00", set(1), api.OK)
	get(t, "\x00n\x80\x00\x00\x00\x00\x00\x00\x00", set(0), api.OK)
	get(t, "\x00n\x7f\xff\xff\xff\xff\xff\xff\xff", set(below0), api.OK)
	get(t, "\x00n\x00\x00\x00\x00\x00\x00\x00\x00", set(nan), api.OK)
	get(t, "\x00tq", text("q"), api.OK)
	get(t, "\x00t"+strings.Repeat("x", 1024), text(strings.Repeat("x", 1024)), api.OK)
	get(t, "\x01\xff\xff\xff\xff\xff\xff\xff\xff", add(-1), api.OK)
	get(t, "\x01\x01\x02\x03\x04\x05\x06\x07\x08", add(0x0102030405060708), api.OK)
	get(t, "\x02\xff\xf0\x00\x00\x00\x00\x00\x00", top(inf), api.OK)
	get(t, "\x03\x00\x0f\xff\xff\xff\xff\xff\xff", low(minus), api.OK)
	get(t, "\x04", clear, api.OK)
}

// P602: bytes in which one thing is wrong.
func TestGetOfNoAct(t *testing.T) {
	const nought = "\x80\x00\x00\x00\x00\x00\x00\x00" // of the number 0
	for _, b := range []string{
		"",
		"\x00", "\x01", "\x02", "\x03", "\x05", "\xff",
		"\x00n", "\x00t", "\x00q", "\x00N", "\x00\x00",
		"\x00" + nought,
		"\x00q" + nought,
		"\x00n1234567",
		"\x00n" + nought + "\x00",
		"\x00n" + "\xff\xf8\x00\x00\x00\x00\x00\x00", // no number is put so
		"\x00n" + "\xff\xf0\x00\x00\x00\x00\x00\x01",
		"\x00n" + "\x00\x00\x00\x00\x00\x00\x00\x01",
		"\x00n" + "\xff\xff\xff\xff\xff\xff\xff\xff",
		"\x00t" + strings.Repeat("x", 1025),
		"\x00t" + strings.Repeat("x", 1<<20),
		"\x011234567",
		"\x01" + nought + "\x00",
		"\x021234567",
		"\x02" + nought + "\x00",
		"\x02\x00\x0f\xff\xff\xff\xff\xff\xfe",
		"\x03n" + nought,
		"\x031234567",
		"\x03" + nought + "\x00",
		"\x04\x00",
		"\x04" + nought,
		"\x05" + nought,
		"\xff" + nought,
		strings.Repeat("\x00", 1<<16),
		strings.Repeat("\xff", 1<<16),
	} {
		get(t, b, api.Act{}, api.ErrForm)
	}
}

// P602: of all bytes of which there are at most two.
func TestGetOfFewBytes(t *testing.T) {
	get(t, "", api.Act{}, api.ErrForm)
	for first := range 256 {
		b := string([]byte{byte(first)})
		want, e := model(b)
		get(t, b, want, e)
		for second := range 256 {
			b := string([]byte{byte(first), byte(second)})
			want, e := model(b)
			get(t, b, want, e)
		}
	}
}

// P606
func TestActsAreGotAsTheyWerePut(t *testing.T) {
	for _, a := range rights() {
		b, e := op.Put(a)
		if e != api.OK {
			t.Fatalf("Put(%.60v): %d", a, e)
		}
		get(t, b, a, api.OK)
	}
	for bit := range 64 {
		for _, n := range []int{1 << bit, 1<<bit - 1, -1 << bit, 0x0123456789abcdef >> bit} {
			for _, a := range []api.Act{add(n), top(math.Float64frombits(uint64(n))), set(math.Float64frombits(uint64(n)))} {
				b, _ := op.Put(a)
				get(t, b, a, api.OK)
			}
		}
	}
}

// P602: of bytes that are cut, changed, left out, doubled, or have more behind them.
func TestGetOfChangedBytes(t *testing.T) {
	look := func(b string) {
		want, e := model(b)
		get(t, b, want, e)
	}
	for _, a := range rights() {
		b, _ := op.Put(a)
		if len(b) > 20 {
			b = b[:20]
		}
		for i := range len(b) {
			look(b[:i])
			look(b[:i] + b[i+1:])
			look(b[:i] + b[i:i+1] + b[i:])
			for c := range 256 {
				look(b[:i] + string([]byte{byte(c)}) + b[i+1:])
			}
		}
		for _, tail := range []string{"\x00", "n", "t", "\xff", b} {
			look(b + tail)
		}
	}
}

// P602: whatever the bytes are, nothing but what Put writes is an act.
func FuzzGet(f *testing.F) {
	for _, a := range rights() {
		b, _ := op.Put(a)
		f.Add(b)
	}
	f.Add("")
	f.Fuzz(func(t *testing.T, b string) {
		want, e := model(b)
		get(t, b, want, e)
	})
}
