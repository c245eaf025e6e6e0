package block_test

import (
	"encoding/binary"
	"fmt"
	"hash/crc32"
	"slices"
	"strings"
	"testing"

	"bedrock/api"
	"bedrock/block"
)

type pairs = [][2]string

// summed tells bytes with their sum behind them.
func summed(b string) string {
	sum := crc32.Checksum([]byte(b), crc32.MakeTable(crc32.Castagnoli))
	return string(binary.BigEndian.AppendUint32([]byte(b), sum))
}

// ended tells the bytes of pairs with how many they are to be, and the sum.
func ended(b string, count int) string {
	return summed(string(binary.BigEndian.AppendUint32([]byte(b), uint32(count))))
}

// number tells a number as it stands ahead of a pair.
func number(n int) string { return string(binary.AppendUvarint(nil, uint64(n))) }

// pair tells a pair as it stands in a block.
func pair(shared int, key, value string) string {
	return number(shared) + number(len(key)) + number(len(value)) + key + value
}

// build builds a block that has to be one.
func build(t *testing.T, l pairs) string {
	t.Helper()
	b, e := block.Build(l)
	if e != api.OK {
		t.Fatalf("Build of %d pairs: %d", len(l), e)
	}
	return b
}

// parses holds what Parse tells against pairs, and Build of them against the bytes.
func parses(t *testing.T, what, b string, want pairs) {
	t.Helper()
	if l, e := block.Parse(b); e != api.OK || !slices.Equal(l, want) {
		t.Errorf("%s: Parse tells %d pairs, %d, not %d", what, len(l), e, len(want))
	}
	if c := build(t, want); c != b {
		t.Errorf("%s: Build tells %d other bytes, not %d", what, len(c), len(b))
	}
}

// refused holds Parse and Seek against what they say of bytes that are no block.
func refused(t *testing.T, what, b string) {
	t.Helper()
	if l, e := block.Parse(b); e != api.ErrCorrupt || l != nil {
		t.Errorf("%s: Parse tells %q, %d", what, l, e)
	}
	for _, key := range []string{"", "a", "\xff"} {
		if k, v, e := block.Seek(b, key); k != "" || v != "" || e != api.ErrCorrupt {
			t.Errorf("%s: Seek(%q) tells %q, %q, %d", what, key, k, v, e)
		}
	}
}

// letters is a text of so many of them.
func letters(n int) string { return strings.Repeat("x", n) }

// P1101
func TestBuild(t *testing.T) {
	for _, c := range []struct {
		what string
		l    pairs
		b    string
	}{
		{"none", nil, "\x00\x00\x00\x00\x48\x67\x4b\xc7"},
		{"an empty list", pairs{}, "\x00\x00\x00\x00\x48\x67\x4b\xc7"},
		{"two", pairs{{"ab", "1"}, {"ac", "2"}}, ended("\x00\x02\x01ab1"+"\x01\x01\x01c2", 2)},
		{"empty ones", pairs{{"", ""}}, ended("\x00\x00\x00", 1)},
		{"an empty key ahead", pairs{{"", "v"}, {"a", ""}, {"aa", ""}}, ended("\x00\x00\x01v"+"\x00\x01\x00a"+"\x01\x01\x00a", 3)},
		{"any bytes", pairs{{"\x00", "\xff"}, {"\x00\x00", "\n"}, {"\xfe\xff", "\x80"}, {"\xff", "é"}}, ended("\x00\x01\x01\x00\xff"+"\x01\x01\x01\x00\n"+"\x00\x02\x01\xfe\xff\x80"+"\x00\x01\x02\xffé", 4)},
		{"a part of a rune", pairs{{"è", ""}, {"é", ""}}, ended("\x00\x02\x00\xc3\xa8"+"\x01\x01\x00\xa9", 2)},
		{"from the beginning alone", pairs{{"abcd", ""}, {"bbcd", ""}, {"bccd", ""}}, ended("\x00\x04\x00abcd"+"\x00\x04\x00bbcd"+"\x01\x03\x00ccd", 3)},
		{"not of keys further ahead", pairs{{"aaa", ""}, {"ab", ""}, {"aba", ""}}, ended("\x00\x03\x00aaa"+"\x01\x01\x00b"+"\x02\x01\x00a", 3)},
		{"values have nothing in common", pairs{{"a", "same"}, {"b", "same"}}, ended("\x00\x01\x04asame"+"\x00\x01\x04bsame", 2)},
		{"numbers of two bytes", pairs{{letters(127), letters(127)}, {letters(128), letters(128)}, {letters(300), letters(300)}},
			ended("\x00\x7f\x7f"+letters(254)+"\x7f\x01\x80\x01"+letters(129)+"\x80\x01\xac\x01\xac\x02"+letters(472), 3)},
	} {
		parses(t, c.what, c.b, c.l)
	}
}

// P1101: of each eight pairs the first one has its whole key.
func TestBuildOfManyPairs(t *testing.T) {
	var l pairs
	b := ""
	for i := range 300 {
		parses(t, fmt.Sprint(i), ended(b, i), l)
		key, value := fmt.Sprintf("key%03d", i), letters(i%5)
		l = append(l, [2]string{key, value})
		switch {
		case i%8 == 0:
			b += pair(0, key, value)
		case i%100 == 0:
			b += pair(3, key[3:], value)
		case i%10 == 0:
			b += pair(4, key[4:], value)
		default:
			b += pair(5, key[5:], value)
		}
	}
}

// P1101
func TestBuildInOrder(t *testing.T) {
	for _, l := range []pairs{
		{{"b", ""}, {"a", ""}},
		{{"a", ""}, {"a", ""}},
		{{"a", "1"}, {"a", "2"}},
		{{"", ""}, {"", ""}},
		{{"a", ""}, {"", ""}},
		{{"ab", ""}, {"a", ""}},
		{{"\x80", ""}, {"a", ""}},
		{{"é", ""}, {"z", ""}},
		{{"a", ""}, {"b", ""}, {"b", ""}},
		{{"a", ""}, {"c", ""}, {"b", ""}},
	} {
		if b, e := block.Build(l); b != "" || e != api.ErrOrder {
			t.Errorf("Build(%q): %x, %d", l, b, e)
		}
	}
	for i := range 20 { // wherever the one is that is not in order
		var l pairs
		for j := range 20 {
			l = append(l, [2]string{fmt.Sprintf("%02d", j), "v"})
		}
		build(t, l)
		l[i][0] = "30"
		if b, e := block.Build(l); i < 19 && (b != "" || e != api.ErrOrder) || i == 19 && e != api.OK {
			t.Errorf("number %d: %x, %d", i, b, e)
		}
	}
}

// P1101: a key and a value may be as long as a text.
func TestBuildOfLongOnes(t *testing.T) {
	most := letters(api.MaxBytes)
	for i, l := range []pairs{
		{{most, ""}},
		{{"", most}},
		{{most, most}},
		{{"a", "b"}, {most, most}},
		{{most[1:], ""}, {most, ""}}, // most of it is in common
	} {
		parses(t, fmt.Sprint(i), build(t, l), l)
	}
	for i, l := range []pairs{
		{{most + "x", ""}},
		{{"", most + "x"}},
		{{"a", ""}, {most + "x", ""}},
		{{"a", ""}, {"b", most + "x"}, {"c", ""}},
		{{most, ""}, {most + "x", ""}}, // but for a byte of it in common
		{{"a", strings.Repeat(most, 9)}},
		{{strings.Repeat(most, 9), ""}},
	} {
		if b, e := block.Build(l); b != "" || e != api.ErrLong {
			t.Errorf("%d: %d bytes, %d", i, len(b), e)
		}
	}
}

// whole tells pairs whose block has so many bytes, of which each value takes at most MaxBytes.
func whole(n int) pairs {
	const keyed = 3 + 2 + 1 // the numbers ahead of a pair whose value is long, and its key
	n -= 8
	var l pairs
	for i := 0; n > 0; i++ {
		size := min(n-keyed, api.MaxBytes)
		l = append(l, [2]string{string(rune('a' + i)), letters(size)})
		n -= keyed + size
	}
	return l
}

// P1101: the whole has 2^19 bytes at most, with what stands behind the pairs.
func TestBuildOfAllThatFits(t *testing.T) {
	for d := -20; d <= 20; d++ {
		l := whole(1<<19 + d)
		b, e := block.Build(l)
		if fits := d <= 0; fits != (e == api.OK) || !fits && (e != api.ErrLong || b != "") || fits && len(b) != 1<<19+d {
			t.Errorf("%d bytes more: %d bytes, %d", d, len(b), e)
		}
		if e == api.OK {
			parses(t, fmt.Sprint(d), b, l)
		}
	}
	// Counted as they stand, without what they have in common.
	var same, other pairs
	for i := range 12 {
		same = append(same, [2]string{letters(65000) + string(rune('a'+i)), ""})
		other = append(other, [2]string{string(rune('a'+i)) + letters(65000), ""})
	}
	parses(t, "in common", build(t, same), same)
	if b, e := block.Build(other); b != "" || e != api.ErrLong {
		t.Errorf("nothing in common: %d bytes, %d", len(b), e)
	}
	var many pairs
	for i := range 1 << 18 {
		many = append(many, [2]string{fmt.Sprintf("%06d", i), ""})
	}
	if b, e := block.Build(many); b != "" || e != api.ErrLong {
		t.Errorf("many: %d bytes, %d", len(b), e)
	}
}

// P1101: the order is looked at first, wherever it is amiss.
func TestBuildTellsOrderFirst(t *testing.T) {
	long := letters(api.MaxBytes + 1)
	far := whole(1 << 20)
	for i, l := range []pairs{
		{{"b", long}, {"a", ""}},
		{{long, ""}, {long, ""}},
		{{"b", ""}, {"a", long}},
		{{"a", long}, {"b", ""}, {"b", ""}},
		append(far, far[len(far)-1]),
	} {
		if b, e := block.Build(l); b != "" || e != api.ErrOrder {
			t.Errorf("%d: %d bytes, %d", i, len(b), e)
		}
	}
}

// P1102
func TestParseOfWhatIsNoBlock(t *testing.T) {
	ab := pair(0, "ab", "1")
	eight := ""
	for i := range 8 {
		eight += pair(min(i, 1), "k"[min(i, 1):]+string(rune('a'+i)), "")
	}
	parses(t, "eight and one", ended(eight+pair(0, "ki", ""), 9), pairs{{"ka", ""}, {"kb", ""}, {"kc", ""}, {"kd", ""}, {"ke", ""}, {"kf", ""}, {"kg", ""}, {"kh", ""}, {"ki", ""}})
	most := letters(api.MaxBytes)
	for what, b := range map[string]string{
		"nothing":                              "",
		"a byte":                               "x",
		"noughts":                              "\x00\x00\x00\x00\x00\x00\x00\x00",
		"a sum of nothing":                     summed(""),
		"no number of pairs":                   summed("\x00\x00\x00"),
		"a number of pairs alone":              ended("", 1),
		"a great number of pairs":              ended("", 1<<32-1),
		"one pair fewer than are told":         ended(ab, 2),
		"one pair more than is told":           ended(ab+pair(1, "c", "2"), 1),
		"no pair is told":                      ended(ab, 0),
		"another sum":                          ended(ab, 1)[:len(ab)+4] + "\x00\x00\x00\x00",
		"a byte more":                          ended(ab, 1) + "\x00",
		"a byte behind the pairs":              ended(ab+"\x00", 1),
		"two bytes behind the pairs":           ended(ab+"\x00\x00", 2),
		"a part of a pair":                     ended(ab[:5], 1),
		"a part of a key":                      ended("\x00\x02\x00a", 1),
		"a part of a number":                   ended("\x00\x00\x80", 1),
		"a number that ends too far":           ended("\x80\x00\x02\x01ab1", 1),
		"another one":                          ended("\x00\x82\x00\x01ab1", 1),
		"and another one":                      ended("\x00\x02\x81\x00ab1", 1),
		"a number of ten bytes":                ended("\x00"+strings.Repeat("\xff", 9)+"\x01", 1),
		"a great number of a key's bytes":      ended("\x00"+strings.Repeat("\xff", 8)+"\x7f\x01ab1", 1),
		"a great number of a value's bytes":    ended("\x00\x02"+strings.Repeat("\xff", 8)+"\x7fab1", 1),
		"a great number of bytes in common":    ended(ab+strings.Repeat("\xff", 8)+"\x7f\x01\x00c", 2),
		"in common with none":                  ended(pair(1, "b", ""), 1),
		"in common with more than there is":    ended(ab+pair(3, "c", ""), 2),
		"fewer bytes in common than there are": ended(ab+pair(0, "ac", ""), 2),
		"by two":                               ended(ab+pair(0, "abc", ""), 2),
		"the same key":                         ended(ab+pair(2, "", ""), 2),
		"a lesser key":                         ended(ab+pair(1, "a", ""), 2),
		"a key that ends first":                ended(ab+pair(1, "", ""), 2),
		"a lesser first byte":                  ended(ab+pair(0, "A", ""), 2),
		"two empty keys":                       ended(pair(0, "", "")+pair(0, "", ""), 2),
		"the ninth pair without its key":       ended(eight+pair(1, "i", ""), 9),
		"the ninth pair not in order":          ended(eight+pair(0, "kh", ""), 9),
		"the ninth pair with a lesser key":     ended(eight+pair(0, "k", ""), 9),
		"a key that is too long":               ended(pair(0, most+"x", ""), 1),
		"too long by what is in common":        ended(pair(0, most, "")+pair(len(most), "x", ""), 2),
		"a value that is too long":             ended(pair(0, "", most+"x"), 1),
		"the second pair is no pair":           ended(ab+"x", 2),
		"a block behind a block":               ended(ended(ab, 1), 1),
	} {
		refused(t, what, b)
	}
}

// P1102: Build tells no bytes above 2^19, whatever their sum.
func TestParseOfTooManyBytes(t *testing.T) {
	form := func(l pairs) string {
		b := ""
		for _, p := range l {
			b += pair(0, p[0], p[1])
		}
		return ended(b, len(l))
	}
	for d := -2; d <= 2; d++ {
		l := whole(1<<19 + d)
		if d <= 0 {
			parses(t, fmt.Sprint(d), form(l), l)
		} else {
			refused(t, fmt.Sprint(d), form(l))
		}
	}
	refused(t, "far more", form(whole(1<<23)))
}

// P1103: of each block here each byte is changed to each other one.
func TestChangedBytes(t *testing.T) {
	for _, l := range []pairs{
		nil,
		{{"", ""}},
		{{"a", "\x00"}},
		{{"ab", "1"}, {"ac", "2"}},
		{{"", "\x00\x00\x00\x00"}, {"\x00", "\xff\xff\xff\xff"}},
		{{"k1", letters(130)}, {"k10", ""}, {"k2", "x"}, {"k3", "x"}, {"k4", "x"}, {"k5", "x"}, {"k6", "x"}, {"k7", "x"}, {"k8", "x"}, {"k9", "x"}},
	} {
		b := build(t, l)
		for i := range b {
			for c := range 256 {
				if byte(c) != b[i] {
					changed := b[:i] + string([]byte{byte(c)}) + b[i+1:]
					if got, e := block.Parse(changed); got != nil || e != api.ErrCorrupt {
						t.Errorf("%x: %q, %d", changed, got, e)
					}
				}
			}
			refused(t, "a part", b[:i])
			refused(t, "a part without its beginning", b[i+1:])
		}
	}
}

// P1102
func TestSeek(t *testing.T) {
	two := pairs{{"ab", "1"}, {"ac", "2"}}
	for _, c := range []struct {
		l               pairs
		key, k, v, what string
		e               api.Errno
	}{
		{two, "abz", "ac", "2", "between them", api.OK},
		{two, "", "ab", "1", "no bytes", api.OK},
		{two, "a", "ab", "1", "ahead of them", api.OK},
		{two, "ab", "ab", "1", "the first one", api.OK},
		{two, "ab\x00", "ac", "2", "just behind the first one", api.OK},
		{two, "ac", "ac", "2", "the last one", api.OK},
		{two, "ac\x00", "", "", "just behind the last one", api.ErrNone},
		{two, "ad", "", "", "behind them", api.ErrNone},
		{two, "\xff", "", "", "a great byte", api.ErrNone},
		{two, letters(api.MaxBytes + 9), "", "", "a long one", api.ErrNone},
		{two, "a" + letters(api.MaxBytes+9), "", "", "another long one", api.ErrNone},
		{two, "A" + letters(api.MaxBytes+9), "ab", "1", "a lesser long one", api.OK},
		{nil, "", "", "", "of no pairs", api.ErrNone},
		{nil, "a", "", "", "of no pairs", api.ErrNone},
		{pairs{{"", ""}}, "", "", "", "empty ones", api.OK},
		{pairs{{"", ""}}, "\x00", "", "", "behind empty ones", api.ErrNone},
		{pairs{{"", "v"}, {"é", "w"}}, "z", "é", "w", "bytes, not runes", api.OK},
	} {
		if k, v, e := block.Seek(build(t, c.l), c.key); k != c.k || v != c.v || e != c.e {
			t.Errorf("%s: %q, %q, %d", c.what, k, v, e)
		}
	}
}

// What is handed in is not changed, and what is answered is new.
func TestListsAreNew(t *testing.T) {
	l := pairs{{"ab", "1"}, {"ac", "2"}, {"spare", "room"}}
	b := build(t, l[:2])
	if !slices.Equal(l, pairs{{"ab", "1"}, {"ac", "2"}, {"spare", "room"}}) {
		t.Errorf("Build changes its list: %q", l)
	}
	l[0], l[1] = [2]string{}, [2]string{}
	for range 2 {
		parses(t, "as it was", b, pairs{{"ab", "1"}, {"ac", "2"}})
		got, _ := block.Parse(b)
		clear(got)
		_ = append(got[:1], l...)
	}
}
