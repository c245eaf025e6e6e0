package merge_test

import (
	"math/rand"
	"slices"
	"strings"
	"testing"

	"bedrock/api"
	"bedrock/merge"
)

// mergedBy tells what Merge is to tell, by the document's words.
func mergedBy(l lists) (pairs, api.Errno) {
	first := map[string]string{}
	for _, one := range slices.Backward(l) {
		for i, p := range one {
			if i > 0 && one[i-1][0] >= p[0] {
				return nil, api.ErrOrder
			}
			first[p[0]] = p[1]
		}
	}
	var out pairs
	for k, v := range first {
		out = append(out, [2]string{k, v})
	}
	slices.SortFunc(out, func(a, b [2]string) int { return strings.Compare(a[0], b[0]) })
	return out, api.OK
}

// headOf tells a key's head, byte by byte.
func headOf(key string) string {
	for i := 1; i < len(key); i++ {
		if key[i-1] == 0 && key[i] == 1 {
			return key[:i+1]
		}
	}
	return key
}

// heads tells how many heads some pairs have, one behind the other.
func heads(l pairs) int {
	n := 0
	for i, p := range l {
		if i == 0 || headOf(p[0]) != headOf(l[i-1][0]) {
			n++
		}
	}
	return n
}

// sizeOf tells how many bytes pairs have.
func sizeOf(l pairs) int {
	n := 0
	for _, p := range l {
		n += len(p[0] + p[1])
	}
	return n
}

// cutsRight holds Group and Split against the document's words: each piece
// can't be longer, and none could have ended earlier.
func cutsRight(t *testing.T, l pairs, size int) {
	t.Helper()
	kept := slices.Clone(l)
	groups, pieces := merge.Group(l), merge.Split(l, size)
	if !slices.Equal(slices.Concat(groups...), l) || !slices.Equal(slices.Concat(pieces...), l) {
		t.Fatalf("%s: %s and %s", text(l), texts(groups), texts(pieces))
	}
	for i, g := range groups {
		if heads(g) != 1 || i > 0 && heads(slices.Concat(groups[i-1], g)) != 2 {
			t.Fatalf("%s: groups %s", text(l), texts(groups))
		}
	}
	for i, p := range pieces {
		if len(p) == 0 || i > 0 && headOf(pieces[i-1][len(pieces[i-1])-1][0]) == headOf(p[0][0]) {
			t.Fatalf("%s: pieces %s", text(l), texts(pieces))
		}
		parts := merge.Group(p)
		if n := sizeOf(slices.Concat(parts[:len(parts)-1]...)); len(parts) > 1 && n >= max(size, 1) {
			t.Fatalf("%s by %d: %s is too long", text(l), size, text(p))
		}
		if i < len(pieces)-1 && sizeOf(p) < max(size, 1) {
			t.Fatalf("%s by %d: %s is too short", text(l), size, text(p))
		}
	}
	if !slices.Equal(l, kept) {
		t.Fatalf("%s is changed to %s", text(kept), text(l))
	}
}

// some tells a text of few kinds of bytes, so that keys have heads in common.
func some(r *rand.Rand, most int) string {
	b := make([]byte, r.Intn(most+1))
	for i := range b {
		b[i] = "\x00\x01ab\xff"[r.Intn(5)]
	}
	return string(b)
}

// anyList tells pairs, mostly in order.
func anyList(r *rand.Rand, most int) pairs {
	var l pairs
	for range r.Intn(most + 1) {
		l = append(l, [2]string{some(r, 5), some(r, 4)})
	}
	if r.Intn(20) > 0 {
		slices.SortFunc(l, func(a, b [2]string) int { return strings.Compare(a[0], b[0]) })
		l = slices.CompactFunc(l, func(a, b [2]string) bool { return a[0] == b[0] })
	}
	return l
}

// mergesRight holds Merge against the document's words, and another grouping against it.
func mergesRight(t *testing.T, l lists, at int) {
	t.Helper()
	kept := texts(l)
	got, e := merge.Merge(l)
	want, f := mergedBy(l)
	if e != f || !slices.Equal(got, want) {
		t.Fatalf("%s: %s, %d, not %s, %d", texts(l), text(got), e, text(want), f)
	}
	if texts(l) != kept {
		t.Fatalf("%s is changed to %s", kept, texts(l))
	}
	if e != api.OK {
		return
	}
	two := lists{merged(t, l[:at]...), merged(t, l[at:]...)}
	if again := merged(t, two...); !slices.Equal(again, got) {
		t.Fatalf("%s, from %d on in two: %s, not %s", texts(l), at, text(again), text(got))
	}
}

// P1601, P1602, P1603: random lists.
func TestModel(t *testing.T) {
	refused := 0
	for seed := range int64(30000) {
		r := rand.New(rand.NewSource(seed))
		l := make(lists, r.Intn(8))
		for i := range l {
			l[i] = anyList(r, 12)
		}
		mergesRight(t, l, r.Intn(len(l)+1))
		cutsRight(t, anyList(r, 30), r.Intn(40)-3)
		if _, e := merge.Merge(l); e != api.OK {
			refused++
		}
	}
	if refused < 1000 || refused > 20000 {
		t.Errorf("%d of all were refused", refused)
	}
}

// P1601: many lists, and long ones.
func TestMany(t *testing.T) {
	r := rand.New(rand.NewSource(16))
	var many lists
	for range 20000 {
		many = append(many, keyed(some(r, 12)))
	}
	mergesRight(t, many, 9000)
	var long lists
	for range 3 {
		l, _ := mergedBy(many[r.Intn(1000):])
		long = append(long, l)
	}
	mergesRight(t, long, 1)
	cutsRight(t, long[0], 500)
}

// FuzzMerge holds all calls against the document's words: a list ends at `|`,
// and each other byte but 2 is one of a key.
func FuzzMerge(f *testing.F) {
	f.Add("a\x02b\x02|b\x02c", 1)
	f.Add("a\x00\x01b\x02a\x00\x01c\x02||a\x00\x01c\x02d", 7)
	f.Add("b\x02a|", -1)
	f.Fuzz(func(t *testing.T, b string, size int) {
		var l lists
		for one := range strings.SplitSeq(b, "|") {
			var p pairs
			for i, key := range strings.Split(one, "\x02") {
				p = append(p, [2]string{key, strings.Repeat("v", i%4)})
			}
			l = append(l, p)
			cutsRight(t, p, size)
		}
		mergesRight(t, l, len(l)/2)
	})
}
