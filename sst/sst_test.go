package sst_test

import (
	"encoding/binary"
	"fmt"
	"hash/crc32"
	"math"
	"slices"
	"strings"
	"testing"

	"bedrock/api"
	"bedrock/block"
	"bedrock/bloom"
	"bedrock/sst"
)

type pairs = [][2]string

// bits are numbers with all their edges.
func bits() []float64 {
	inf := math.Inf(1)
	return []float64{10, 0, math.Copysign(0, -1), 1, 0.1, -3, 33.3, 1e9, 1e300, inf, -inf, math.NaN(), math.MaxFloat64, math.SmallestNonzeroFloat64}
}

// letters is a text of so many of them.
func letters(n int) string { return strings.Repeat("x", n) }

// summed tells bytes with their sum behind them.
func summed(b string) string {
	sum := crc32.Checksum([]byte(b), crc32.MakeTable(crc32.Castagnoli))
	return string(binary.BigEndian.AppendUint32([]byte(b), sum))
}

// write writes a table that has to be one.
func write(t *testing.T, l pairs, bits float64) string {
	t.Helper()
	b, e := sst.Write(l, bits)
	if e != api.OK {
		t.Fatalf("Write of %d pairs: %d", len(l), e)
	}
	return b
}

// open opens a table that has to be one.
func open(t *testing.T, b string) *sst.Table {
	t.Helper()
	x, e := sst.Open(b)
	if e != api.OK || x == nil {
		t.Fatalf("Open of %d bytes: %d", len(b), e)
	}
	return x
}

// build tells the bytes of a block that has to be one.
func build(t *testing.T, l pairs) string {
	t.Helper()
	b, e := block.Build(l)
	if e != api.OK {
		t.Fatalf("a block of %d pairs: %d", len(l), e)
	}
	return b
}

// has holds all that a table tells against pairs that it is to have.
func has(t *testing.T, what string, x *sst.Table, l pairs) {
	t.Helper()
	if x.Count() != len(l) || x.First() != l[0][0] || x.Last() != l[len(l)-1][0] {
		t.Errorf("%s: %d pairs, %.40q to %.40q", what, x.Count(), x.First(), x.Last())
	}
	if !slices.Equal(x.From("", -1), l) {
		t.Errorf("%s: From tells other pairs", what)
	}
	for _, p := range l {
		if v, e := x.Get(p[0]); v != p[1] || e != api.OK {
			t.Errorf("%s: Get(%.40q): %.40q, %d", what, p[0], v, e)
		}
	}
}

// P1301, P1303: the examples.
func TestExamples(t *testing.T) {
	l := pairs{{"a", "1"}, {"b", "2"}}
	x := open(t, write(t, l, 10))
	if v, e := x.Get("b"); v != "2" || e != api.OK {
		t.Errorf("Get: %q, %d", v, e)
	}
	if got := x.From("aa", -1); !slices.Equal(got, l[1:]) {
		t.Errorf("From: %q", got)
	}
	if x.Count() != 2 || x.Blocks() != 1 {
		t.Errorf("%d pairs in %d blocks", x.Count(), x.Blocks())
	}
	has(t, "the example", x, l)
}

// P1301
func TestWriteRefuses(t *testing.T) {
	var most pairs // a block of 2^19 bytes
	for i := range 7 {
		most = append(most, [2]string{string(rune('a' + i)), letters(api.MaxBytes)})
	}
	most = append(most, [2]string{"h", letters(65480)})
	if n := len(build(t, most)); n != 1<<19 {
		t.Fatalf("%d bytes", n)
	}
	more := slices.Clone(most)
	more[7][1] += "x"
	for _, c := range []struct {
		what string
		l    pairs
		e    api.Errno
	}{
		{"none", nil, api.ErrArg},
		{"an empty list", pairs{}, api.ErrArg},
		{"an empty key", pairs{{"", ""}}, api.OK},
		{"falling", pairs{{"b", ""}, {"a", ""}}, api.ErrOrder},
		{"the same", pairs{{"a", "1"}, {"a", "2"}}, api.ErrOrder},
		{"the same empty key", pairs{{"", ""}, {"", ""}}, api.ErrOrder},
		{"bytes, not runes", pairs{{"\xff", ""}, {"é", ""}}, api.ErrOrder},
		{"falling from block to block", pairs{{"b", letters(2000)}, {"a", ""}}, api.ErrOrder},
		{"the same in two blocks", pairs{{"b", letters(2000)}, {"b", ""}}, api.ErrOrder},
		{"a long key", pairs{{letters(api.MaxBytes), ""}}, api.OK},
		{"too long a key", pairs{{letters(api.MaxBytes + 1), ""}}, api.ErrLong},
		{"a long value", pairs{{"a", letters(api.MaxBytes)}}, api.OK},
		{"too long a value", pairs{{"a", ""}, {"b", letters(api.MaxBytes + 1)}}, api.ErrLong},
		{"order ahead of length", pairs{{"a", letters(api.MaxBytes + 1)}, {"c", ""}, {"b", ""}}, api.ErrOrder},
		{"many bytes", most, api.OK},
		{"too many bytes", more, api.ErrLong},
		{"too many bytes in another order", append(slices.Clone(more), [2]string{"a", ""}), api.ErrOrder},
	} {
		for _, bits := range bits() {
			b, e := sst.Write(c.l, bits)
			if e != c.e || (b == "") != (e != api.OK) {
				t.Errorf("%s, %v: %d bytes, %d", c.what, bits, len(b), e)
			}
			if e == api.OK {
				has(t, c.what, open(t, b), c.l)
			}
		}
	}
}

// P1301: which pairs stand together.
func TestWriteCutsBlocks(t *testing.T) {
	for _, c := range []struct {
		what string
		l    pairs
		ends []int // behind how many pairs a block ends
	}{
		{"one", pairs{{"a", "1"}}, []int{1}},
		{"1023 bytes", pairs{{"a", letters(1022)}, {"b", ""}, {"c", ""}}, []int{2, 3}},
		{"1022 bytes", pairs{{"a", letters(1021)}, {"b", ""}, {"c", ""}}, []int{3}},
		{"1024 bytes", pairs{{"a", letters(1023)}, {"b", ""}, {"c", ""}}, []int{1, 3}},
		{"1025 bytes", pairs{{"a", letters(1024)}, {"b", ""}, {"c", ""}}, []int{1, 3}},
		{"1024 bytes of a key", pairs{{"a" + letters(1023), ""}, {"b", ""}}, []int{1, 2}},
		{"1023 bytes of a key", pairs{{"a" + letters(1022), ""}, {"b", ""}, {"c", ""}}, []int{2, 3}},
		{"all 1024 at the end", pairs{{"a", letters(1023)}}, []int{1}},
		{"the one that passes it", pairs{{"a", letters(500)}, {"b", letters(500)}, {"c", letters(5000)}, {"d", ""}}, []int{3, 4}},
		{"great ones", pairs{{"a", letters(5000)}, {"b", letters(5000)}, {"c", letters(5000)}}, []int{1, 2, 3}},
		{"nothing is carried over", pairs{{"a", letters(5000)}, {"b", letters(1022)}, {"c", letters(1022)}, {"d", ""}}, []int{1, 3, 4}},
		{"keys in common count whole", pairs{{letters(600), ""}, {letters(601), ""}, {letters(602), ""}}, []int{2, 3}},
		{"an empty pair", pairs{{"", ""}, {"a", letters(1022)}, {"b", ""}, {"c", ""}}, []int{3, 4}},
	} {
		b := write(t, c.l, 10)
		if n := open(t, b).Blocks(); n != len(c.ends) {
			t.Errorf("%s: %d blocks", c.what, n)
		}
		blocks, from := "", 0
		for _, end := range c.ends {
			blocks += build(t, c.l[from:end])
			from = end
		}
		if !strings.HasPrefix(b, blocks) {
			t.Errorf("%s: other blocks", c.what)
		}
		has(t, c.what, open(t, b), c.l)
	}
}

// P1301
func TestWriteTellsTheSum(t *testing.T) {
	for _, l := range []pairs{{{"", ""}}, {{"a", "1"}, {"b", "2"}}, {{"a", letters(9999)}, {"b", letters(9999)}}} {
		if b := write(t, l, 10); summed(b[:len(b)-4]) != b {
			t.Errorf("%.40q: the sum is %x", l, b[len(b)-4:])
		}
	}
}

// P1301: the filter has the heads of all keys, each once.
func TestWriteFiltersHeads(t *testing.T) {
	for _, c := range []struct {
		keys, heads []string
	}{
		{[]string{"a", "b"}, []string{"a", "b"}},
		{[]string{""}, []string{""}},
		{[]string{"\x00\x01"}, []string{"\x00\x01"}},
		{[]string{"\x00\x01a", "\x00\x01b"}, []string{"\x00\x01"}},
		{[]string{"a\x00\x01", "a\x00\x011", "a\x00\x012", "b\x00\x011"}, []string{"a\x00\x01", "b\x00\x01"}},
		{[]string{"a", "a\x00", "a\x00\x01x", "a\x01"}, []string{"a", "a\x00", "a\x00\x01", "a\x01"}},
		{[]string{"a\x00\x01b\x00\x01c", "a\x00\x01b\x00\x01d"}, []string{"a\x00\x01"}},
		{[]string{"a\x00\x00\x01b", "a\x00\x00\x01c"}, []string{"a\x00\x00\x01"}},
		{[]string{"a\x00\xff\x01b", "a\x00\xff\x01c"}, []string{"a\x00\xff\x01b", "a\x00\xff\x01c"}},
		{[]string{"a\x01\x00b", "a\x01\x00c"}, []string{"a\x01\x00b", "a\x01\x00c"}},
		{[]string{"a\x01\x00\x01b", "a\x01\x00\x01c"}, []string{"a\x01\x00\x01"}},
		{[]string{"a\x00b\x01", "a\x00c\x01"}, []string{"a\x00b\x01", "a\x00c\x01"}},
	} {
		for _, bits := range bits() {
			var l pairs
			for _, key := range c.keys {
				l = append(l, [2]string{key, "a\x00\x01value"})
			}
			b, filter := write(t, l, bits), bloom.Build(c.heads, bits)
			if !strings.HasPrefix(b[len(build(t, l)):], filter) {
				t.Errorf("%q, %v: another filter", c.keys, bits)
			}
			x := open(t, b)
			for _, head := range append(c.heads, "", "a", "c", "a\x00\x01", "other", "\x01\x00", letters(1000)) {
				if x.May(head) != bloom.May(filter, head) {
					t.Errorf("%q, %v: May(%q): %v", c.keys, bits, head, x.May(head))
				}
			}
		}
	}
}

// P1301: how many bytes a filter takes hangs on how many heads there are, not keys.
func TestWriteCountsHeads(t *testing.T) {
	var one, all pairs
	for i := range 200 {
		one = append(one, [2]string{fmt.Sprintf("r1\x00\x01%03d", i), "v"})
		all = append(all, [2]string{fmt.Sprintf("r%03d\x00\x01", i), "v"})
	}
	for _, c := range []struct {
		bits float64
		more int
	}{
		{10, 250 - 8},
		{0, 0},
		{1, 25 - 8},
		{math.NaN(), 0},
		{math.Inf(-1), 0},
		{math.Inf(1), 0},
		{1 << 19, 0},
		{1 << 12, 1<<16 - 1<<9},
	} {
		blocks := len(write(t, all, 0)) - len(write(t, one, 0)) // as those differ, too
		if n := len(write(t, all, c.bits)) - len(write(t, one, c.bits)) - blocks; n != c.more {
			t.Errorf("%v: %d bytes more for 200 heads, not %d", c.bits, n, c.more)
		}
	}
}

// P1301: what is handed in stays as it is, and so do the bytes behind it.
func TestWriteLeavesItsPairs(t *testing.T) {
	room := pairs{{"a\x00\x011", "1"}, {"a\x00\x012", letters(2000)}, {"b", "3"}, {"beyond", "4"}}
	want := slices.Clone(room)
	b := write(t, room[:3], 10)
	if !slices.Equal(room, want) || write(t, room[:3], 10) != b {
		t.Errorf("Write changed something: %q", room)
	}
	x := open(t, b)
	clear(room)
	has(t, "the table", x, want[:3])
}

// P1301: a list whose block is short, as its long keys have much in common, may be a long table.
func TestKeysWithMuchInCommon(t *testing.T) {
	var l pairs
	for i := range 64 {
		l = append(l, [2]string{letters(60000) + string([]byte{byte(i)}), fmt.Sprint(i)})
	}
	b := write(t, l, 10)
	x := open(t, b)
	if len(b) < 64*60000 || x.Blocks() != 64 {
		t.Errorf("%d bytes, %d blocks", len(b), x.Blocks())
	}
	has(t, "the table", x, l)
}

// P1303
func TestGetAndFrom(t *testing.T) {
	l := pairs{{"", "none"}, {"a", ""}, {"a\x00", "1"}, {"ab", letters(3000)}, {"b", "2"}, {"\x7f", "3"}, {"\x80", "4"}, {"\xff", "5"}, {"\xff\xff", "6"}}
	x := open(t, write(t, l, 10))
	has(t, "the table", x, l)
	for _, c := range []struct {
		key  string
		at   int
		told bool
	}{
		{"", 0, true},
		{"\x00", 1, false},
		{"Z", 1, false},
		{"a", 1, true},
		{"a\x00", 2, true},
		{"a\x00\x00", 3, false},
		{"a\x01", 3, false},
		{"aa", 3, false},
		{"ab", 3, true},
		{"ab\x00", 4, false},
		{"b", 4, true},
		{"ba", 5, false},
		{"\x7f", 5, true},
		{"\x80", 6, true},
		{"\x81", 7, false},
		{"é", 7, false},
		{"\xff", 7, true},
		{"\xff\xfe\xff", 8, false},
		{"\xff\xff", 8, true},
		{"\xff\xff\x00", 9, false},
		{letters(100000), 5, false},
	} {
		v, e := x.Get(c.key)
		if c.told && (v != l[c.at][1] || e != api.OK) || !c.told && (v != "" || e != api.ErrNone) {
			t.Errorf("Get(%.20q): %.20q, %d", c.key, v, e)
		}
		rest := l[c.at:]
		for _, most := range []int{-1, math.MinInt, 0, 1, 2, 5, 9, 10, math.MaxInt} {
			want := rest
			if most >= 0 && most < len(rest) {
				want = rest[:most]
			}
			if got := x.From(c.key, most); !slices.Equal(got, want) {
				t.Errorf("From(%.20q, %d): %d pairs, not %d", c.key, most, len(got), len(want))
			}
		}
	}
}

// P1303: what is told is new memory.
func TestWhatFromTellsIsNew(t *testing.T) {
	l := pairs{{"a", "1"}, {"b", "2"}, {"c", "3"}}
	x := open(t, write(t, l, 10))
	for _, most := range []int{-1, 1, 2, 3, 4} {
		got := x.From("a", most)
		got[0] = [2]string{"z", "z"}
		got = append(got, [2]string{"z", "z"})
		clear(got)
		has(t, fmt.Sprint(most), x, l)
	}
	if got := x.From("c", 0); len(append(got, [2]string{"z", "z"})) != 1 {
		t.Errorf("From tells %q", got)
	}
	has(t, "none", x, l)
}

// P1304
func TestNoTable(t *testing.T) {
	var none *sst.Table
	for _, x := range []*sst.Table{none, {}} {
		for _, key := range []string{"", "a"} {
			if v, e := x.Get(key); v != "" || e != api.ErrArg {
				t.Errorf("Get: %q, %d", v, e)
			}
			if x.May(key) {
				t.Errorf("May(%q) is true", key)
			}
			for _, most := range []int{-1, 0, 1} {
				if l := x.From(key, most); len(l) != 0 {
					t.Errorf("From: %q", l)
				}
			}
		}
		if x.Count() != 0 || x.First() != "" || x.Last() != "" || x.Blocks() != 0 {
			t.Errorf("%d pairs, %q to %q, %d blocks", x.Count(), x.First(), x.Last(), x.Blocks())
		}
	}
}

// refused holds Open against what it says of bytes that are no table.
func refused(t *testing.T, what, b string) {
	t.Helper()
	if x, e := sst.Open(b); x != nil || e != api.ErrCorrupt {
		t.Errorf("%s: %v, %d", what, x != nil, e)
	}
}

// P1302, P1305
func TestOpenRefusesChangedBytes(t *testing.T) {
	for _, l := range []pairs{
		{{"", ""}},
		{{"a", "1"}, {"b", "2"}},
		{{"a\x00\x01", letters(1500)}, {"b\x00\x01", letters(20)}},
	} {
		b := write(t, l, 10)
		for i := range b {
			for _, x := range []byte{1, 2, 16, 128, 255} {
				refused(t, fmt.Sprint("a changed byte, number ", i), b[:i]+string([]byte{b[i] ^ x})+b[i+1:])
			}
			refused(t, fmt.Sprint("the first bytes alone, ", i), b[:i])
			refused(t, fmt.Sprint("without the first bytes, ", i+1), b[i+1:])
		}
		for _, more := range []string{"\x00", "x", b} {
			refused(t, "more behind it", b+more)
		}
		refused(t, "more ahead of it", "x"+b)
	}
}

// number tells four bytes.
func number(n int) string { return string(binary.BigEndian.AppendUint32(nil, uint32(n))) }

// laid tells bytes that are laid as a table, whatever its parts are.
func laid(filter string, blocks ...string) string {
	b, index := "", ""
	for _, one := range blocks {
		b += one
		index += number(len(one))
	}
	return summed(b + filter + index + number(len(blocks)))
}

// P1302: of bytes whose sum fits, those in which something else is amiss.
func TestOpenRefusesWhatNoTableHas(t *testing.T) {
	a, b, both := build(t, pairs{{"a", "1"}}), build(t, pairs{{"b", "2"}, {"c", "3"}}), build(t, pairs{{"a", "1"}, {"b", "2"}, {"c", "3"}})
	filter := bloom.Build([]string{"a", "b", "c"}, 10)
	has(t, "two blocks", open(t, laid(filter, a, b)), pairs{{"a", "1"}, {"b", "2"}, {"c", "3"}})
	has(t, "one block", open(t, laid(filter, both)), pairs{{"a", "1"}, {"b", "2"}, {"c", "3"}})
	for _, n := range []int{1, 2, 3, 4, 7, 8, 9, 100} {
		refused(t, fmt.Sprint(n, " noughts"), summed(strings.Repeat("\x00", n)))
		refused(t, fmt.Sprint(n, " times 255"), summed(strings.Repeat("\xff", n)))
	}
	for _, c := range []struct{ what, b string }{
		{"no bytes", ""},
		{"noughts", "\x00\x00\x00\x00"},
		{"no block", laid(filter)},
		{"an empty block", laid(filter, build(t, nil))},
		{"an empty block behind another one", laid(filter, a, build(t, nil))},
		{"a block of no bytes", laid(filter, a, "")},
		{"blocks that fall", laid(filter, b, a)},
		{"the same block twice", laid(filter, a, a)},
		{"a block that begins with the last key", laid(filter, both, build(t, pairs{{"c", "4"}}))},
		{"a changed block", laid(filter, a, b[:3]+"z"+b[4:])},
		{"a cut block", laid(filter, a, b[:len(b)-1])},
		{"a longer block", laid(filter, a, b+"\x00")},
		{"a filter without a key", laid(bloom.Build([]string{"a", "b"}, 10), a, b)},
		{"a filter without any", laid(bloom.Build(nil, 10), a, b)},
		{"more blocks than there are", summed(a + filter + number(len(a)) + number(2))},
		{"the greatest number of blocks", summed(a + filter + number(len(a)) + number(1<<32-1))},
		{"fewer bytes than the block has", summed(a + number(len(a)+1) + number(1))},
		{"fewer bytes than the second block has", summed(a + b + number(len(a)) + number(len(b)+1) + number(2))},
		{"the greatest number of bytes", summed(a + number(1<<32-1) + number(1))},
	} {
		refused(t, c.what, c.b)
	}
}

// What merge asks as well: how a key begins, for the filter.
func TestHead(t *testing.T) {
	for _, c := range [][2]string{
		{"", ""}, {"a", "a"}, {"a\x00", "a\x00"}, {"a\x01", "a\x01"}, {"\x01\x00", "\x01\x00"}, {"a\x00\x02\x01", "a\x00\x02\x01"},
		{"\x00\x01", "\x00\x01"}, {"\x00\x01b", "\x00\x01"}, {"a\x00\x01b\x00\x01c", "a\x00\x01"}, {"a\x00\x00\x01\x01", "a\x00\x00\x01"},
	} {
		if h := sst.Head(c[0]); h != c[1] {
			t.Errorf("%q: %q, not %q", c[0], h, c[1])
		}
	}
}
