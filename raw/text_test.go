package raw_test

import (
	"fmt"
	"math"
	"regexp"
	"strconv"
	"strings"
	"testing"

	"bedrock/api"
	"bedrock/raw"
)

// P105
func TestDigits(t *testing.T) {
	for _, c := range []struct {
		v int
		s string
	}{
		{0, "0"},
		{7, "7"},
		{-50, "-50"},
		{1000, "1000"},
		{math.MaxInt, "9223372036854775807"},
		{math.MinInt, "-9223372036854775808"},
	} {
		if s := raw.Digits(c.v); s != c.s {
			t.Errorf("Digits(%d): %q, not %q", c.v, s, c.s)
		}
	}
	for _, v := range edges() {
		if s := raw.Digits(v); s != fmt.Sprint(v) {
			t.Errorf("Digits(%d): %q", v, s)
		}
	}
}

// P105
func TestNumber(t *testing.T) {
	for _, c := range []struct {
		s string
		v int
	}{
		{"0", 0},
		{"7", 7},
		{"-7", -7},
		{"10", 10},
		{"-1", -1},
		{"9999999999999999", 9999999999999999},
		{"-9999999999999999", -9999999999999999},
		{"1000000000000000", 1000000000000000},
	} {
		if v, e := raw.Number(c.s); v != c.v || e != api.OK {
			t.Errorf("Number(%q): %d, %d, not %d", c.s, v, e, c.v)
		}
	}
	for _, s := range []string{
		"", "-", "-0", "00", "-00", "007", "-07", "--1", "+1", "1-", "1x", "x", " 1", "1 ", "1.5", "1_0", "0x1", "1e3", "0p1",
		"12345678901234567", "-12345678901234567", "10000000000000000", strings.Repeat("9", 400), "1\x00", "\xb2", "١",
	} {
		if v, e := raw.Number(s); v != 0 || e != api.ErrForm {
			t.Errorf("Number(%q): %d, %d, not ErrForm", s, v, e)
		}
	}
}

// P105
func TestNumberTakesNothingElse(t *testing.T) {
	form := regexp.MustCompile(`^(0|-?[1-9][0-9]{0,15})$`)
	texts("-+019/:a", 5, func(s string) {
		want, e := 0, api.ErrForm
		if form.MatchString(s) {
			want, _ = strconv.Atoi(s)
			e = api.OK
		}
		if v, f := raw.Number(s); v != want || f != e {
			t.Errorf("Number(%q): %d, %d, not %d, %d", s, v, f, want, e)
		}
	})
}

// P106
func TestQuote(t *testing.T) {
	for _, c := range []struct{ b, q string }{
		{"", `""`},
		{"a b", `"a b"`},
		{" ~", `" ~"`},
		{"\x1f\x7f\x80", `"\x1f\x7f\x80"`},
		{`"`, `"\""`},
		{`\`, `"\\"`},
		{"a\"\\\n\xe9~\x7f", `"a\"\\\x0a\xe9~\x7f"`},
		{"\x00\xab\xff", `"\x00\xab\xff"`},
		{"é", `"\xc3\xa9"`},
		{"\t\r", `"\x09\x0d"`},
	} {
		if q := raw.Quote(c.b); q != c.q {
			t.Errorf("Quote(%x): %s, not %s", c.b, q, c.q)
		}
	}
}

// P106
func TestQuoteOfEachByte(t *testing.T) {
	for c := range 256 {
		want := fmt.Sprintf(`"\x%02x"`, c)
		switch {
		case c == '"' || c == '\\':
			want = `"\` + string(rune(c)) + `"`
		case c >= 32 && c <= 126:
			want = `"` + string(rune(c)) + `"`
		}
		if q := raw.Quote(string([]byte{byte(c)})); q != want {
			t.Errorf("Quote(%x): %s, not %s", c, q, want)
		}
	}
}

// P106
func TestUnquote(t *testing.T) {
	for _, c := range []struct {
		s, b string
		size int
	}{
		{`"a\x41"z`, "aA", 7},
		{`""`, "", 2},
		{`""""`, "", 2},
		{`"a"b"`, "a", 3},
		{`"\""`, `"`, 4},
		{`"\\"`, `\`, 4},
		{`"\\""`, `\`, 4},
		{`"\xfF\"\\"`, "\xff\"\\", 10},
		{`"\xAB\xcd\x09"`, "\xab\xcd\x09", 14},
		{`"\x22"`, `"`, 6},
		{`" ~"`, " ~", 4},
		{"\"a\"\n\xff", "a", 3},
	} {
		if b, size, e := raw.Unquote(c.s); b != c.b || size != c.size || e != api.OK {
			t.Errorf("Unquote(%q): %q, %d, %d, not %q, %d", c.s, b, size, e, c.b, c.size)
		}
	}
	for _, s := range []string{
		"", "a", ` "a"`, `'a'`, `"`, `"a`, `a"`, `"\`, `"\"`, `"\x`, `"\x4`, `"\x4"`, `"\x41`, `"\x4g"`, `"\xg4"`, `"\x 4"`, `"\X41"`,
		`"\n"`, `"\a"`, `"\0"`, `"\'"`, "\"\n\"", "\"\x1f\"", "\"\x7f\"", "\"\x80\"", "\"\xff\"", "\"é\"", "\"\x00\"", `"a` + "\n" + `"`,
		`"\x/0"`, `"\x:0"`, "\"\\x`0\"", `"\x@0"`, `"\xG0"`, `\"a\"`,
	} {
		if b, size, e := raw.Unquote(s); b != "" || size != 0 || e != api.ErrForm {
			t.Errorf("Unquote(%q): %q, %d, %d, not ErrForm", s, b, size, e)
		}
	}
}

// P106
func TestUnquoteTakesNothingElse(t *testing.T) {
	form := regexp.MustCompile(`^"([ !#-\[\]-~]|\\["\\]|\\x[0-9a-fA-F]{2})*"`)
	texts("\"\\x4g\x1f", 7, func(s string) {
		want := form.FindString(s)
		b, size, e := raw.Unquote(s)
		if size != len(want) || (e == api.OK) != (want != "") || (want == "" && (b != "" || e != api.ErrForm)) {
			t.Errorf("Unquote(%q): %q, %d, %d, not %d", s, b, size, e, len(want))
		}
		if want == "" {
			return
		}
		if w, err := strconv.Unquote(want); err != nil || w != b {
			t.Errorf("Unquote(%q): %q, not %q", s, b, w)
		}
	})
}

// P107
func TestTextsAreGotAsTheyWerePut(t *testing.T) {
	all := make([]byte, 256)
	for i := range all {
		all[i] = byte(i)
	}
	for _, b := range []string{"", "a", `\x41`, `"`, `\`, `\\"`, string(all), strings.Repeat(string(all), 3)} {
		q := raw.Quote(b)
		for _, tail := range []string{"", `"`, " x", `\`} {
			if got, size, e := raw.Unquote(q + tail); got != b || size != len(q) || e != api.OK {
				t.Errorf("Unquote of Quote(%.40q) and %q: %.40q, %d, %d", b, tail, got, size, e)
			}
		}
	}
	for _, v := range edges() {
		s := raw.Digits(v)
		w, e := raw.Number(s)
		if short := len(strings.TrimPrefix(s, "-")) <= 16; short != (e == api.OK) || (short && w != v) {
			t.Errorf("Number of Digits(%d): %d, %d", v, w, e)
		}
	}
}
