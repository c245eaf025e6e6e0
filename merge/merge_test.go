package merge_test

import (
	"fmt"
	"math"
	"slices"
	"strings"
	"testing"

	"bedrock/api"
	"bedrock/merge"
)

type (
	pairs = [][2]string
	lists = [][][2]string
)

// list makes pairs of keys and values in turn.
func list(s ...string) pairs {
	var l pairs
	for ; len(s) > 1; s = s[2:] {
		l = append(l, [2]string{s[0], s[1]})
	}
	return l
}

// keyed makes pairs of keys alone.
func keyed(keys ...string) pairs {
	var l pairs
	for _, k := range keys {
		l = append(l, [2]string{k, ""})
	}
	return l
}

// text tells pairs in few bytes.
func text(l pairs) string { return fmt.Sprintf("%q", l) }

// texts tells several lists of pairs in few bytes.
func texts(l lists) string {
	var s []string
	for _, one := range l {
		s = append(s, text(one))
	}
	return strings.Join(s, " | ")
}

// P1601
func TestMerge(t *testing.T) {
	for _, c := range []struct {
		what string
		l    lists
		want pairs
	}{
		{"no list", nil, nil},
		{"no list", lists{}, nil},
		{"lists without pairs", lists{nil, {}, nil}, nil},
		{"one list", lists{list("a", "1", "b", "2")}, list("a", "1", "b", "2")},
		{"one pair", lists{nil, list("a", ""), nil}, list("a", "")},
		{"a key without bytes", lists{list("a", "1"), list("", "2")}, list("", "2", "a", "1")},
		{"one behind the other", lists{list("a", "1", "b", "2"), list("c", "3", "d", "4")}, list("a", "1", "b", "2", "c", "3", "d", "4")},
		{"one ahead of the other", lists{list("c", "3", "d", "4"), list("a", "1", "b", "2")}, list("a", "1", "b", "2", "c", "3", "d", "4")},
		{"by turns", lists{list("a", "1", "c", "3"), list("b", "2", "d", "4")}, list("a", "1", "b", "2", "c", "3", "d", "4")},
		{"one key: the first list", lists{list("a", "1"), list("a", "2")}, list("a", "1")},
		{"one key: the first list, turned", lists{list("a", "2"), list("a", "1")}, list("a", "2")},
		{"one key in all", lists{list("k", "1"), list("k", "2"), list("k", "3"), list("k", "4"), list("k", "5")}, list("k", "1")},
		{"one key behind others", lists{list("a", "1", "k", "2"), list("k", "3"), list("b", "4", "k", "5")}, list("a", "1", "b", "4", "k", "2")},
		{"one key that the first list has not", lists{list("z", "1"), list("b", "2", "k", "3"), nil, list("k", "4")}, list("b", "2", "k", "3", "z", "1")},
		{"one list twice", lists{list("a", "1", "b", "2"), list("a", "1", "b", "2")}, list("a", "1", "b", "2")},
		{"one value of two keys", lists{list("a", "1"), list("b", "1")}, list("a", "1", "b", "1")},
		{"its value does not count", lists{list("a", "9", "b", "1"), list("b", "0", "c", "0")}, list("a", "9", "b", "1", "c", "0")},
		{"bytes as numbers", lists{list("\x7f", "1", "\x80", "2"), list("\x00", "3", "\xff", "4")}, list("\x00", "3", "\x7f", "1", "\x80", "2", "\xff", "4")},
		{"who ends first is the lesser one", lists{list("ab", "1"), list("a", "2", "ab\x00", "3"), list("a\x00", "4")}, list("a", "2", "a\x00", "4", "ab", "1", "ab\x00", "3")},
		{"far more of one list", lists{list("a", "1", "b", "2", "c", "3", "d", "4", "e", "5"), list("c", "6"), list("0", "7", "z", "8")}, list("0", "7", "a", "1", "b", "2", "c", "3", "d", "4", "e", "5", "z", "8")},
	} {
		got, e := merge.Merge(c.l)
		if e != api.OK || !slices.Equal(got, c.want) {
			t.Errorf("%s: %s, %d, not %s", c.what, text(got), e, text(c.want))
		}
	}
}

// P1601
func TestMergeOutOfOrder(t *testing.T) {
	for _, l := range []lists{
		{list("b", "1", "a", "2")},
		{list("a", "1", "a", "1")},
		{list("a", "1", "a", "2")},
		{list("", "1", "", "2")},
		{list("a", "1", "c", "2", "b", "3")},
		{list("a", "1", "b", "2", "c", "3", "c", "4")},
		{list("\x80", "1", "\x7f", "2")},
		{list("ab", "1", "a", "2")},
		{list("a", "1", "b", "2"), nil, list("d", "1", "c", "2")},
		{list("b", "1", "a", "2"), list("a", "1", "b", "2")},
		{list("a", "1"), list("a", "2", "a", "3")},
		{list("a", "1", "b", "2", "c", "3"), list("a", "1", "b", "2", "b", "3")},
		{list("m", "1"), list("a", "2", "z", "3", "y", "4")},
		{list("m", "1", "z", "2"), list("n", "2", "b", "3")},
		{keyed("a"), keyed("b"), keyed("c"), keyed("z", "a")},
	} {
		if got, e := merge.Merge(l); e != api.ErrOrder || len(got) != 0 {
			t.Errorf("%s: %s, %d", texts(l), text(got), e)
		}
	}
}

// P1602
func TestGroup(t *testing.T) {
	for _, c := range []struct {
		what string
		l    pairs
		want []int // how many each group has
	}{
		{"none", nil, nil},
		{"none", pairs{}, nil},
		{"one", keyed("a"), []int{1}},
		{"one without bytes", keyed(""), []int{1}},
		{"whole keys", keyed("a", "b", "c"), []int{1, 1, 1}},
		{"whole keys that begin with one another", keyed("a", "ab", "abc"), []int{1, 1, 1}},
		{"one key twice", keyed("a", "a", "b"), []int{2, 1}},
		{"one head", keyed("a\x00\x01", "a\x00\x01x", "a\x00\x01y"), []int{3}},
		{"two heads", keyed("a\x00\x01x", "a\x00\x01y", "b\x00\x01x"), []int{2, 1}},
		{"heads without bytes ahead", keyed("\x00\x01", "\x00\x01\x00", "\x00\x02", "\x01"), []int{2, 1, 1}},
		{"a head and a whole key", keyed("a", "a\x00\x01", "a\x00\x01b", "b"), []int{1, 2, 1}},
		{"a whole key that goes on otherwise", keyed("a\x00", "a\x00\x00", "a\x00\x01", "a\x00\x01\x01", "a\x00\x02"), []int{1, 1, 2, 1}},
		{"up to the first of two ends", keyed("a\x00\x01b\x00\x01c", "a\x00\x01b\x00\x01d", "a\x00\x01c\x00\x01"), []int{3}},
		{"0 and 0 and 1", keyed("a\x00\x00\x01x", "a\x00\x00\x01y", "a\x00\x01y"), []int{2, 1}},
		{"0 and 255 and 1 have none", keyed("a\x00\xff\x01x", "a\x00\xff\x01y"), []int{1, 1}},
		{"a nought in the key's head", keyed("a\x00\xff\x00\x01x", "a\x00\xff\x00\x01y", "a\x00\xffb\x00\x01"), []int{2, 1}},
		{"1 and 0 have none", keyed("a\x01\x00x", "a\x01\x00y"), []int{1, 1}},
		{"not in order", keyed("b\x00\x01x", "a\x00\x01x", "b\x00\x01x", "b\x00\x01a"), []int{1, 1, 2}},
	} {
		l := slices.Clone(c.l)
		for i := range l {
			l[i][1] = fmt.Sprint(i)
		}
		cut(t, c.what, merge.Group(l), l, c.want)
	}
}

// cut holds pieces against a list and how many each has.
func cut(t *testing.T, what string, got lists, l pairs, sizes []int) {
	t.Helper()
	var want lists
	for _, n := range sizes {
		want = append(want, l[:n])
		l = l[n:]
	}
	if !slices.EqualFunc(got, want, slices.Equal[pairs]) {
		t.Errorf("%s: %s, not %s", what, texts(got), texts(want))
	}
}

// P1602
func TestSplit(t *testing.T) {
	ten := list("a\x00\x01x", "123456", "b\x00\x01x", "123456", "c\x00\x01x", "123456")
	groups := list("a\x00\x01x", "1", "a\x00\x01y", "2", "b", "3", "c\x00\x01x", "4", "c\x00\x01y", "5", "d", "")
	nothing := keyed("", "a", "b")
	for _, c := range []struct {
		what string
		l    pairs
		size int
		want []int
	}{
		{"none", nil, 5, nil},
		{"none", pairs{}, 0, nil},
		{"just one group", ten, 10, []int{1, 1, 1}},
		{"less than a group", ten, 9, []int{1, 1, 1}},
		{"more than a group", ten, 11, []int{2, 1}},
		{"the second one passes it", ten, 15, []int{2, 1}},
		{"just two groups", ten, 20, []int{2, 1}},
		{"more than two groups", ten, 21, []int{3}},
		{"just all", ten, 30, []int{3}},
		{"more than all", ten, 31, []int{3}},
		{"1", ten, 1, []int{1, 1, 1}},
		{"0 counts as 1", ten, 0, []int{1, 1, 1}},
		{"below 0 counts as 1", ten, -5, []int{1, 1, 1}},
		{"the least int", ten, math.MinInt, []int{1, 1, 1}},
		{"the greatest int", ten, math.MaxInt, []int{3}},
		{"no group is cut", groups, 1, []int{2, 1, 2, 1}},
		{"a group that is passed within", groups, 5, []int{2, 3, 1}},
		{"just a group of two", groups, 10, []int{2, 3, 1}},
		{"a group, and a byte", groups, 11, []int{3, 3}},
		{"keys and values count", list("abc", "", "d", "efg", "hi", "j", "k", ""), 4, []int{2, 2}},
		{"values alone", list("", "abc", "a", ""), 3, []int{1, 1}},
		{"nothing is below 1", nothing, 1, []int{2, 1}},
		{"nothing is below 0 as well", nothing, 0, []int{2, 1}},
		{"nothing, and less than 0", nothing, -1, []int{2, 1}},
		{"nothing alone", nothing[:1], 1, []int{1}},
		{"a great one among small ones", list("a", "", "b", strings.Repeat("x", 99), "c", "", "d", ""), 50, []int{2, 2}},
		{"not in order", keyed("c", "b", "a", "a"), 2, []int{2, 2}},
	} {
		cut(t, c.what, merge.Split(c.l, c.size), c.l, c.want)
	}
}

// P1603: also what is merged in another grouping.
func TestConsequences(t *testing.T) {
	l := lists{list("a", "1", "c", "2"), list("a", "3", "b", "4", "d", "5"), list("b", "6", "c", "7"), list("d", "8", "e", "9")}
	all := merged(t, l...)
	if want := list("a", "1", "b", "4", "c", "2", "d", "5", "e", "9"); !slices.Equal(all, want) {
		t.Error(text(all))
	}
	for _, got := range []pairs{
		merged(t, merged(t, l[0], l[1]), merged(t, l[2], l[3])),
		merged(t, l[0], merged(t, l[1], merged(t, l[2], l[3]))),
		merged(t, merged(t, merged(t, l[0], l[1]), l[2]), l[3]),
		merged(t, l[0], merged(t, l[1:3]...), nil, l[3]),
		merged(t, merge.Group(all)...),
		slices.Concat(merge.Group(all)...),
		slices.Concat(merge.Split(all, 3)...),
	} {
		if !slices.Equal(got, all) {
			t.Errorf("%s, not %s", text(got), text(all))
		}
	}
}

// merged tells what lists in order are merged to.
func merged(t *testing.T, l ...pairs) pairs {
	t.Helper()
	out, e := merge.Merge(l)
	if e != api.OK {
		t.Fatalf("%s: %d", texts(l), e)
	}
	return out
}

// Rule 3: what is handed in stays as it is, and what is answered is new memory.
func TestMemory(t *testing.T) {
	one := list("a\x00\x01", "1", "a\x00\x01b", "2", "b", "3", "c", "4")
	l := lists{one[:3], {{"0", "5"}}, nil, {{"z", "6"}}}
	room := l[:3]
	kept := []string{text(one), texts(l)}
	hold := func(when string) {
		t.Helper()
		if text(one) != kept[0] || texts(l) != kept[1] {
			t.Fatalf("%s: what was handed in is changed", when)
		}
	}
	for _, in := range []lists{room, room[:1], room[1:2]} {
		got := merged(t, in...)
		clear(got[:cap(got)])
		hold("Merge")
	}
	for _, cut := range []func() lists{
		func() lists { return merge.Group(one[:3]) },
		func() lists { return merge.Split(one[:3], 1) },
		func() lists { return merge.Split(one[:3], 99) },
	} {
		want := texts(cut())
		got := cut()
		for i := range got {
			again := cut()
			clear(again[i][:cap(again[i])])
			again[i] = got[i]
			if texts(again) != want {
				t.Errorf("piece %d: others share its memory", i)
			}
		}
		clear(got[:cap(got)])
		hold("a cut")
	}
	refused := lists{list("a", "1", "c", "2", "b", "3"), list("b", "1")}
	if _, e := merge.Merge(refused); e != api.ErrOrder || texts(refused) != texts(lists{list("a", "1", "c", "2", "b", "3"), list("b", "1")}) {
		t.Errorf("%d, and now %s", e, texts(refused))
	}
}

// The document's examples.
func TestExamples(t *testing.T) {
	if got := merged(t, list("a", "1", "c", "2"), list("a", "9", "b", "3")); !slices.Equal(got, list("a", "1", "b", "3", "c", "2")) {
		t.Error("Merge:", text(got))
	}
	ten := list("a", "123456789", "b", "123456789", "c", "123456789")
	cut(t, "Split", merge.Split(ten, 15), ten, []int{2, 1})
}
