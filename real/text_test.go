package real_test

import (
	"math"
	"math/big"
	"regexp"
	"strconv"
	"strings"
	"testing"

	"bedrock/api"
	"bedrock/real"
)

// texts calls f with each text of at most so many of the bytes of alphabet.
func texts(alphabet string, most int, f func(string)) {
	f("")
	if most == 0 {
		return
	}
	for i := range len(alphabet) {
		texts(alphabet, most-1, func(s string) { f(alphabet[i:i+1] + s) })
	}
}

// asText is the text of a number that is not 0, as the document tells it, step by step.
func asText(f float64) string {
	m, e := math.Frexp(math.Abs(f))
	m, e = m*(1<<53), e-53
	for math.Mod(m, 2) == 0 {
		m, e = m/2, e+1
	}
	s := ""
	if f < 0 {
		s = "-"
	}
	if whole := math.Abs(f); e >= 0 && whole < 1<<53 {
		return s + strconv.Itoa(int(whole))
	}
	return s + strconv.Itoa(int(m)) + "p" + strconv.Itoa(e)
}

var form = regexp.MustCompile(`^(-?)(0|[1-9][0-9]{0,15})(?:p(0|-?[1-9][0-9]*))?$`)

// asNumber is the number of a text, as the document tells it, by numbers without bounds.
func asNumber(s string) (float64, api.Errno) {
	switch s {
	case "nan":
		return nan, api.OK
	case "inf":
		return inf, api.OK
	case "-inf":
		return minus, api.OK
	}
	part := form.FindStringSubmatch(s)
	if part == nil || len(part[3]) > 5 {
		return 0, api.ErrForm
	}
	digits, _ := strconv.Atoi(part[2])
	power, _ := strconv.Atoi(part[3])
	if digits >= 1<<53 {
		return 0, api.ErrOver
	}
	value := new(big.Float).SetMantExp(new(big.Float).SetPrec(64).SetInt64(int64(digits)), power)
	f, exact := value.Float64()
	if exact != big.Exact || math.IsInf(f, 0) {
		return 0, api.ErrOver
	}
	if part[1] != "" {
		f = math.Copysign(f, -1)
	}
	return f, api.OK
}

// P203
func TestText(t *testing.T) {
	for _, c := range []struct {
		f float64
		s string
	}{
		{nan, "nan"},
		{math.Copysign(nan, -1), "nan"},
		{inf, "inf"},
		{minus, "-inf"},
		{0, "0"},
		{below0, "-0"},
		{1, "1"},
		{-1, "-1"},
		{-8, "-8"},
		{10, "10"},
		{1.5, "3p-1"},
		{-1.5, "-3p-1"},
		{0.5, "1p-1"},
		{0.1, "3602879701896397p-55"},
		{6, "6"},
		{1e15, "1000000000000000"},
		{-1e15, "-1000000000000000"},
		{1 << 52, "4503599627370496"},
		{1<<53 - 2, "9007199254740990"},
		{1<<53 - 1, "9007199254740991"},
		{-(1<<53 - 1), "-9007199254740991"},
		{1 << 53, "1p53"},
		{-(1 << 53), "-1p53"},
		{1<<53 + 2, "4503599627370497p1"},
		{3 << 51, "6755399441055744"},
		{3 << 52, "3p52"},
		{1e22, "2384185791015625p22"},
		{tiny, "1p-1074"},
		{2 * tiny, "1p-1073"},
		{-3 * tiny, "-3p-1074"},
		{normal, "1p-1022"},
		{reduced, "4503599627370495p-1074"},
		{math.Nextafter(normal, 1), "4503599627370497p-1074"},
		{math.Ldexp(1, 1023), "1p1023"},
		{huge, "9007199254740991p971"},
		{-huge, "-9007199254740991p971"},
	} {
		if s := real.Text(c.f); s != c.s {
			t.Errorf("Text(%g): %q, not %q", c.f, s, c.s)
		}
	}
	for _, f := range nans() {
		if s := real.Text(f); s != "nan" {
			t.Errorf("Text(%x): %q, not nan", math.Float64bits(f), s)
		}
	}
}

// P203
func TestTextOfAllPowers(t *testing.T) {
	look := func(f float64) {
		if f == 0 || f-f != 0 {
			return
		}
		if s, want := real.Text(f), asText(f); s != want {
			t.Errorf("Text(%g): %q, not %q", f, s, want)
		}
	}
	for e := -1074; e < 1024; e++ {
		for _, m := range []float64{1, 3, 5, 10, 1 << 52, 1<<53 - 1, 1<<53 - 2} {
			look(math.Ldexp(m, e))
			look(-math.Ldexp(m, e))
		}
	}
	scatter(20000, func(x uint64) { look(math.Float64frombits(x)) })
	scatter(2000, func(x uint64) { look(float64(int64(x) >> (x % 64))) })
}

// P204
func TestParse(t *testing.T) {
	for _, c := range []struct {
		s string
		f float64
	}{
		{"nan", nan},
		{"inf", inf},
		{"-inf", minus},
		{"0", 0},
		{"-0", below0},
		{"0p3", 0},
		{"0p0", 0},
		{"-0p3", below0},
		{"-0p-3", below0},
		{"0p99999", 0},
		{"0p-9999", 0},
		{"-0p-9999", below0},
		{"5", 5},
		{"-5", -5},
		{"10", 10},
		{"12p-3", 1.5},
		{"-12p-3", -1.5},
		{"12p3", 96},
		{"7p0", 7},
		{"9007199254740991", 1<<53 - 1},
		{"-9007199254740991", -(1<<53 - 1)},
		{"9007199254740990p1", 1<<54 - 4},
		{"9007199254740991p971", huge},
		{"-9007199254740991p971", -huge},
		{"4503599627370496p971", math.Ldexp(1, 1023)},
		{"1p1023", math.Ldexp(1, 1023)},
		{"1p53", 1 << 53},
		{"1p-1074", tiny},
		{"2p-1075", tiny},
		{"-8p-1076", -2 * tiny},
		{"4503599627370496p-1126", tiny},
		{"4503599627370495p-1074", reduced},
		{"1p-1022", normal},
		{"4503599627370497p-1074", math.Nextafter(normal, 1)},
		{"9007199254740991p-1074", math.Ldexp(1<<53-1, -1074)},
	} {
		if f, e := real.Parse(c.s); !alike(f, c.f) || e != api.OK {
			t.Errorf("Parse(%q): %g, %d, not %g", c.s, f, e, c.f)
		}
	}
}

// P204
func TestParseRefuses(t *testing.T) {
	refused := func(want api.Errno, l ...string) {
		for _, s := range l {
			if f, e := real.Parse(s); !alike(f, 0) || e != want {
				t.Errorf("Parse(%q): %g, %d, not %d", s, f, e, want)
			}
		}
	}
	refused(api.ErrForm,
		"", "-", "--", "p", "-p", "--1", "+1", "1-", "01", "-01", "00", "-00", "007", " 1", "1 ", "1.5", "1e3", "0x1", "1_0", "x",
		"1p", "-1p", "p1", "-p1", "0p", "1p-", "1p-0", "1p00", "1p01", "1p-01", "1p+1", "1p 1", "1pp1", "1p1p1", "1p--1", "1p1.0", "1P1",
		"1p100000", "1p-99999", "1p-10000", "0p100000", "0p-10000", "1p1234567890123456", "1p12345678901234567", "1pnan", "1pinf",
		"10000000000000000", "12345678901234567", "12345678901234567p-1", "00000000000000001", strings.Repeat("9", 400),
		"-nan", "+nan", "NaN", "Nan", "nanp1", "nan ", "+inf", "Inf", "-Inf", "infp1", "--inf", "infinity", "in", "na",
		"1\x00", "\x00", "\xff", "١", "-\xe2\x88\x92", "１",
		"9007199254740992p", "9007199254740992p-0", "9007199254740992p100000", "1p9999x", "9999999999999999x")
	refused(api.ErrOver,
		"9007199254740992", "-9007199254740992", "9007199254740993", "9999999999999999", "-9999999999999999", "9007199254740992p-1", "9007199254740992p1",
		"1p1024", "-1p1024", "3p1023", "2p1023", "9007199254740991p972", "9007199254740991p9719", "4503599627370496p972", "1p99999", "1p9999", "-1p99999",
		"1p-1075", "-1p-1075", "3p-1075", "2p-1076", "6p-1076", "9007199254740991p-1075", "9007199254740990p-1076", "1p-9999", "-1p-9999", "4503599627370496p-1127")
}

// P204
func TestParseTakesNothingElse(t *testing.T) {
	look := func(s string) {
		want, e := asNumber(s)
		if f, g := real.Parse(s); !alike(f, want) || g != e {
			t.Errorf("Parse(%q): %g, %d, not %g, %d", s, f, g, want, e)
		}
	}
	texts("-019p+x", 5, look)
	texts("-naifN0", 4, look)
}

// P204
func TestParseOfAllPowers(t *testing.T) {
	digits := []int{1, 2, 3, 6, 10, 1 << 20, 1<<52 - 1, 1 << 52, 1<<52 + 1, 1<<53 - 2, 1<<53 - 1, 1 << 53}
	for e := -1140; e <= 1030; e++ {
		for _, m := range digits {
			for _, ahead := range []string{"", "-"} {
				s := ahead + strconv.Itoa(m) + "p" + strconv.Itoa(e)
				want, err := asNumber(s)
				if f, g := real.Parse(s); !alike(f, want) || g != err {
					t.Errorf("Parse(%q): %g, %d, not %g, %d", s, f, g, want, err)
				}
			}
		}
	}
}
