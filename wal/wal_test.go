package wal_test

import (
	"encoding/binary"
	"fmt"
	"hash/crc32"
	"math"
	"slices"
	"strings"
	"testing"

	"bedrock/api"
	"bedrock/disk"
	"bedrock/wal"
)

type calls = []api.Errno

// answers holds the Errnos of calls against those that are wanted.
func answers(t *testing.T, what string, got calls, want ...api.Errno) {
	t.Helper()
	if !slices.Equal(got, want) {
		t.Errorf("%s: %d, not %d", what, got, want)
	}
}

// open opens the log a, whose segments have size bytes.
func open(t *testing.T, d *disk.Disk, size int) *wal.Log {
	t.Helper()
	l, e := wal.Open(d, "a", size)
	if e != api.OK || l == nil {
		t.Fatalf("Open: %v, %d", l, e)
	}
	return l
}

// put appends records that have to be taken.
func put(t *testing.T, l *wal.Log, records ...string) {
	t.Helper()
	for _, rec := range records {
		if e := l.Append(rec); e != api.OK {
			t.Fatalf("Append of %d bytes: %d", len(rec), e)
		}
	}
}

// has holds a log's numbers and records against those that are wanted.
func has(t *testing.T, what string, l *wal.Log, first, last int, records ...string) {
	t.Helper()
	if l.First() != first || l.Last() != last {
		t.Errorf("%s: from %d to %d, not from %d to %d", what, l.First(), l.Last(), first, last)
	}
	if got := l.Records(math.MinInt); !slices.Equal(got, records) {
		t.Errorf("%s: %q, not %q", what, got, records)
	}
}

// form tells records as the document says that they stand in a segment.
func form(records ...string) string {
	var b []byte
	for _, rec := range records {
		length := binary.BigEndian.AppendUint32(nil, uint32(len(rec)+1))
		sum := crc32.Checksum(append(slices.Clone(length), rec...), crc32.MakeTable(crc32.Castagnoli))
		b = append(b, length...)
		b = binary.BigEndian.AppendUint32(b, sum)
		b = append(b, rec...)
	}
	return string(b)
}

// lay makes a file of its own, or of other bytes, all of them synced.
func lay(t *testing.T, d *disk.Disk, name, data string) {
	t.Helper()
	d.Remove(name)
	for _, e := range []api.Errno{d.Create(name), d.Append(name, data), d.Sync(name)} {
		if e != api.OK {
			t.Fatalf("%s: %d", name, e)
		}
	}
}

// files tells the files of a disk in pairs of name and bytes.
func files(d *disk.Disk) []string {
	var l []string
	for _, name := range d.List("") {
		data, _ := d.Read(name)
		l = append(l, name, data)
	}
	return l
}

// on holds the files of a disk against pairs of name and bytes.
func on(t *testing.T, what string, d *disk.Disk, pairs ...string) {
	t.Helper()
	if got := files(d); !slices.Equal(got, pairs) {
		t.Errorf("%s: %q, not %q", what, got, pairs)
	}
}

// fail lets the power fail and come back; nothing stays but what was synced.
func fail(d *disk.Disk) {
	d.Crash(nil, 0)
	d.Restore()
}

// P901
func TestOpenArguments(t *testing.T) {
	long := strings.Repeat("w", 40)
	off := disk.New()
	off.Crash(nil, 0)
	on := disk.New()
	for i, c := range []struct {
		d    *disk.Disk
		dir  string
		size int
		e    api.Errno
	}{
		{on, "a", 1, api.OK},
		{on, "a/b-c_d.0", 1 << 19, api.OK},
		{on, long, 20, api.OK},
		{nil, "a", 1, api.ErrArg},
		{on, "", 1, api.ErrArg},
		{on, long + "w", 1, api.ErrArg},
		{on, strings.Repeat("w", 1000), 1, api.ErrArg},
		{on, "A", 1, api.ErrArg},
		{on, "a b", 1, api.ErrArg},
		{on, "a\x00", 1, api.ErrArg},
		{on, "é", 1, api.ErrArg},
		{on, "a", 0, api.ErrArg},
		{on, "a", -1, api.ErrArg},
		{on, "a", math.MinInt, api.ErrArg},
		{on, "a", 1<<19 + 1, api.ErrArg},
		{on, "a", math.MaxInt, api.ErrArg},
		{off, "a", 1, api.ErrOff},
		{&disk.Disk{}, "a", 1, api.ErrOff},
		{off, "A", 1, api.ErrArg},
		{off, "a", 0, api.ErrArg},
		{nil, "A", 0, api.ErrArg},
	} {
		l, e := wal.Open(c.d, c.dir, c.size)
		if e != c.e || (l != nil) != (e == api.OK) {
			t.Errorf("Open %d: %v, %d, not %d", i, l, e, c.e)
		}
	}
	if on.Acts() != 0 {
		t.Errorf("Open of nothing: %d acts", on.Acts())
	}
}

// P901, P903
func TestOpenOfNothing(t *testing.T) {
	d := disk.New()
	l := open(t, d, 20)
	has(t, "nothing", l, 0, 0)
	answers(t, "nothing", calls{l.Sync(), l.Rotate(), l.Drop(0), l.Drop(math.MaxInt), l.Drop(math.MinInt)}, 0, 0, 0, 0, 0)
	if d.Acts() != 0 {
		t.Errorf("nothing takes %d acts", d.Acts())
	}
}

// The form of a record and of a segment's name.
func TestForm(t *testing.T) {
	d := disk.New()
	l := open(t, d, 1000)
	records := []string{"", "abc", "\x00\xff", "é\n", strings.Repeat("x", 255), strings.Repeat("y", 256)}
	put(t, l, records...)
	on(t, "records", d, "a/w00000001", form(records...))
	if b := files(d)[1]; fmt.Sprintf("%x", b[:8]) != "00000001ba0cc8c4" {
		t.Errorf("the record of no bytes: %x", b[:8])
	}
	has(t, "records", l, 1, 1, records...)
	has(t, "opened anew", open(t, d, 1000), 1, 1, records...)
}

// The form: other files are not looked at, whatever they have.
func TestOtherFiles(t *testing.T) {
	d := disk.New()
	others := []string{"a", "a/", "a/w", "a/w0000000g", "a/w00000000", "a/w0000001", "a/w000000001", "a/w00000001.", "a/w-0000001", "a/w0x00001",
		"a/w0000_01", "a/v00000001", "a/w00000003/w00000001", "aa/w00000001", "b/w00000001", "w00000001", "a/mend", "a/mend2", "aw00000001", "a//w0000001", "a/w........"}
	for _, name := range others {
		lay(t, d, name, "junk")
	}
	l := open(t, d, 20)
	has(t, "others", l, 0, 0)
	put(t, l, "x")
	answers(t, "Drop", calls{l.Rotate(), l.Drop(math.MaxInt)}, 0, 0)
	for _, name := range others {
		if data, e := d.Read(name); data != "junk" || e != api.OK {
			t.Errorf("%s: %q, %d", name, data, e)
		}
	}
	if n := len(d.List("")); n != len(others) {
		t.Errorf("%d files, not %d", n, len(others))
	}
}

// The form: numbers are in sixteen digits, and rise over all of them.
func TestNumbersOfSegments(t *testing.T) {
	d := disk.New()
	for i, name := range []string{"0000000f", "00000009", "0000000a", "deadbeef", "10000000", "7fffffff", "80000000"} {
		lay(t, d, "a/w"+name, form(fmt.Sprint(i)))
	}
	l := open(t, d, 20)
	has(t, "numbers", l, 9, 0xdeadbeef, "1", "2", "0", "4", "5", "6", "3")
	put(t, l, "x")
	if data, e := d.Read("a/wdeadbef0"); data != form("x") || e != api.OK || l.Last() != 0xdeadbef0 {
		t.Errorf("behind the last one: %q, %d, %x", data, e, l.Last())
	}
	for _, c := range []struct {
		from int
		want string
	}{
		{math.MinInt, "1 2 0 4 5 6 3 x"}, {-1, "1 2 0 4 5 6 3 x"}, {0, "1 2 0 4 5 6 3 x"}, {9, "1 2 0 4 5 6 3 x"}, {10, "2 0 4 5 6 3 x"}, {11, "0 4 5 6 3 x"},
		{16, "4 5 6 3 x"}, {1 << 31, "6 3 x"}, {0xdeadbeef, "3 x"}, {0xdeadbef0, "x"}, {0xdeadbef1, ""}, {math.MaxInt, ""},
	} {
		if got := strings.Join(l.Records(c.from), " "); got != c.want {
			t.Errorf("Records(%d): %q, not %q", c.from, got, c.want)
		}
	}
}

// P902
func TestSegmentsAreLeft(t *testing.T) {
	for _, c := range []struct {
		size    int
		records string // of these lengths, and `|` where another segment begins
	}{
		{20, "3|10"},
		{21, "3|10"},
		{29, "3 10"},
		{28, "3|10"},
		{16, "0 0|0 0|0"},
		{17, "0 0|1 0|0 1|1 0"},
		{15, "0|0|0"},
		{1, "0|0|100|0|1"},
		{8, "0|0|5|0"},
		{20, "100|3|3|100"},
		{1 << 19, "131072 131072 131072 131040|0"},
		{1 << 19, "131072 131072 131072|131041 131072"},
		{1, "131072|131072|0"},
	} {
		d := disk.New()
		l := open(t, d, c.size)
		var pairs []string
		for i, s := range strings.Split(c.records, "|") {
			var records []string
			for _, w := range strings.Fields(s) {
				n := 0
				fmt.Sscan(w, &n)
				records = append(records, strings.Repeat("r", n))
			}
			put(t, l, records...)
			if l.Last() != i+1 || !slices.Equal(l.Records(l.Last()), records) {
				t.Errorf("%d, %s: %d records in segment %d", c.size, c.records, len(l.Records(l.Last())), l.Last())
			}
			pairs = append(pairs, fmt.Sprintf("a/w%08x", i+1), form(records...))
		}
		if !slices.Equal(files(d), pairs) {
			t.Errorf("%d, %s: other files %q", c.size, c.records, d.List(""))
		}
	}
}

// P902: what is left is synced; what goes on is not.
func TestASegmentThatIsLeftIsSynced(t *testing.T) {
	d := disk.New()
	l := open(t, d, 20)
	put(t, l, "one", "0123456789")
	if d.Acts() != 5 {
		t.Errorf("%d acts, not a file, a record, a sync, a file, a record", d.Acts())
	}
	fail(d)
	on(t, "left", d, "a/w00000001", form("one"), "a/w00000002", "")
	l = open(t, d, 20)
	has(t, "left", l, 1, 2, "one")
	put(t, l, "on")
	on(t, "behind Open there is none", d, "a/w00000001", form("one"), "a/w00000002", "", "a/w00000003", form("on"))
}

// P902
func TestAppendTooLong(t *testing.T) {
	d := disk.New()
	l := open(t, d, 1<<19)
	most := strings.Repeat("m", 1<<17)
	answers(t, "long", calls{l.Append(most + "x")}, api.ErrLong)
	on(t, "long", d)
	answers(t, "as long as can be", calls{l.Append(most), l.Append(most + "x"), l.Append("y")}, api.OK, api.ErrLong, api.OK)
	has(t, "as long as can be", l, 1, 1, most, "y")
	has(t, "opened anew", open(t, d, 20), 1, 1, most, "y")
}

// P902: the first error of the disk.
func TestAppendWithoutRoom(t *testing.T) {
	d := disk.New()
	l := open(t, d, 30)
	d.Quota(0)
	answers(t, "the file is made", calls{l.Append("abc"), l.Append("abc"), l.Sync()}, api.ErrFull, api.ErrFull, api.OK)
	has(t, "the file stays and is open", l, 1, 1)
	on(t, "the file stays", d, "a/w00000001", "")
	answers(t, "the open one stays", calls{l.Drop(9)}, api.OK)
	d.Quota(20)
	answers(t, "room", calls{l.Append("abc"), l.Append("0"), l.Append("1"), l.Append("0123456789abc")}, api.OK, api.OK, api.ErrFull, api.ErrFull)
	has(t, "another segment", l, 1, 2, "abc", "0")
	on(t, "another segment", d, "a/w00000001", form("abc", "0"), "a/w00000002", "")
	d.Quota(-1)
	answers(t, "no quota", calls{l.Append("0123456789abc")}, api.OK)
	has(t, "no quota", l, 1, 2, "abc", "0", "0123456789abc")
	has(t, "opened anew", open(t, d, 30), 1, 2, "abc", "0", "0123456789abc")
}

// P902: a segment without bytes takes a record of any length.
func TestAppendToASegmentWithoutBytes(t *testing.T) {
	d := disk.New()
	l := open(t, d, 20)
	d.Quota(0)
	long := strings.Repeat("x", 100)
	answers(t, "no room", calls{l.Append("abc")}, api.ErrFull)
	d.Quota(-1)
	acts := d.Acts()
	answers(t, "room", calls{l.Append(long)}, api.OK)
	has(t, "room", l, 1, 1, long)
	if d.Acts()-acts != 1 {
		t.Errorf("%d acts", d.Acts()-acts)
	}
	put(t, l, "")
	has(t, "on", l, 1, 2, long, "")
}

// P902
func TestAppendWithoutFiles(t *testing.T) {
	d := disk.New()
	l := open(t, d, 20)
	put(t, l, "abc")
	for i := range api.MaxFiles - 1 {
		d.Create(fmt.Sprint(i))
	}
	// The segment is left all the same: the next record goes to another one.
	answers(t, "no file", calls{l.Append("0123456789"), l.Append("d"), l.Rotate()}, api.ErrFull, api.ErrFull, api.OK)
	has(t, "no file", l, 1, 1, "abc")
	d.Remove("0")
	answers(t, "a file", calls{l.Append("d")}, api.OK)
	has(t, "a file", l, 1, 2, "abc", "d")
}

// P902: a file that stands in the way, made behind the log's back.
func TestAppendWhereAFileIs(t *testing.T) {
	d := disk.New()
	l := open(t, d, 20)
	lay(t, d, "a/w00000001", form("other"))
	answers(t, "a file is there", calls{l.Append("abc")}, api.ErrThere)
	has(t, "a file is there", l, 0, 0)
	d.Remove("a/w00000001")
	put(t, l, "abc")
	d.Remove("a/w00000001")
	answers(t, "a file is gone", calls{l.Append("d"), l.Append("0123456789"), l.Sync(), l.Rotate(), l.Rotate(), l.Drop(2)}, api.ErrNone, api.ErrNone, api.ErrNone, api.ErrNone, api.ErrNone, api.OK)
	has(t, "a file is gone", l, 1, 1, "abc")
}

// P902
func TestTheGreatestNumber(t *testing.T) {
	d := disk.New()
	lay(t, d, "a/wfffffffe", form("x"))
	l := open(t, d, 20)
	put(t, l, "y")
	has(t, "the greatest", l, 0xfffffffe, 0xffffffff, "x", "y")
	answers(t, "no other one", calls{l.Append("0123456789"), l.Append("z"), l.Append(strings.Repeat("x", 1<<17+1)), l.Sync(), l.Rotate()}, api.ErrFull, api.ErrFull, api.ErrLong, api.OK, api.OK)
	has(t, "no other one", l, 0xfffffffe, 0xffffffff, "x", "y")
	l = open(t, d, 20)
	answers(t, "opened anew", calls{l.Append("z"), l.Rotate(), l.Drop(0xffffffff), l.Append("z"), l.Drop(math.MaxInt), l.Append("z")}, api.ErrFull, api.OK, api.OK, api.ErrFull, api.OK, api.OK)
	has(t, "from the first one on", l, 1, 1, "z")
}

// P903
func TestSync(t *testing.T) {
	d := disk.New()
	l := open(t, d, 100)
	put(t, l, "one", "two")
	answers(t, "Sync", calls{l.Sync()}, api.OK)
	put(t, l, "three")
	u := d.Twin()
	fail(u)
	has(t, "what was synced", open(t, u, 100), 1, 1, "one", "two")
	put(t, l, "four")
	answers(t, "Sync", calls{l.Sync(), l.Sync()}, api.OK, api.OK)
	has(t, "it is open all the same", l, 1, 1, "one", "two", "three", "four")
	fail(d)
	has(t, "what was synced", open(t, d, 100), 1, 1, "one", "two", "three", "four")
}

// P903
func TestRotate(t *testing.T) {
	d := disk.New()
	l := open(t, d, 100)
	put(t, l, "one")
	answers(t, "Rotate", calls{l.Rotate()}, api.OK)
	acts := d.Acts()
	answers(t, "none is open", calls{l.Rotate(), l.Sync()}, api.OK, api.OK)
	if d.Acts() != acts {
		t.Errorf("%d acts without an open segment", d.Acts()-acts)
	}
	has(t, "none is open", l, 1, 1, "one")
	put(t, l, "two", "three")
	has(t, "another one", l, 1, 2, "one", "two", "three")
	fail(d)
	on(t, "it was synced", d, "a/w00000001", form("one"), "a/w00000002", "")
}

// P903
func TestDrop(t *testing.T) {
	d := disk.New()
	l := open(t, d, 1)
	put(t, l, "1", "2", "3", "4", "5")
	answers(t, "none", calls{l.Drop(math.MinInt), l.Drop(0), l.Drop(1)}, api.OK, api.OK, api.OK)
	has(t, "none", l, 1, 5, "1", "2", "3", "4", "5")
	answers(t, "below 3", calls{l.Drop(3)}, api.OK)
	has(t, "below 3", l, 3, 5, "3", "4", "5")
	on(t, "below 3", d, "a/w00000003", form("3"), "a/w00000004", form("4"), "a/w00000005", form("5"))
	answers(t, "but the open one", calls{l.Drop(math.MaxInt)}, api.OK)
	has(t, "but the open one", l, 5, 5, "5")
	put(t, l, "6")
	has(t, "on", l, 5, 6, "5", "6")
	answers(t, "all", calls{l.Rotate(), l.Drop(6), l.Drop(7)}, api.OK, api.OK, api.OK)
	has(t, "all", l, 0, 0)
	on(t, "all", d)
	put(t, l, "7")
	has(t, "from the first one on", l, 1, 1, "7")
}

// P903: behind Open there is no open segment.
func TestDropBehindOpen(t *testing.T) {
	d := disk.New()
	put(t, open(t, d, 1), "1", "2")
	l := open(t, d, 1)
	answers(t, "all", calls{l.Drop(9)}, api.OK)
	has(t, "all", l, 0, 0)
	on(t, "all", d)
}

// P903: the lowest first, till the disk tells an error.
func TestDropTillTheDiskFails(t *testing.T) {
	for n := range 5 {
		d := disk.New()
		l := open(t, d, 1)
		put(t, l, "1", "2", "3", "4")
		answers(t, "Sync", calls{l.Sync()}, api.OK)
		d.Fuse(n, nil, 0)
		e := l.Drop(5)
		if want := n < 3; want != (e == api.ErrOff) || want == (e == api.OK) {
			t.Errorf("a fuse of %d: %d", n, e)
		}
		left := []string{"1", "2", "3", "4"}[min(n, 3):]
		has(t, "the log", l, min(n, 3)+1, 4, left...)
		d.Restore()
		has(t, "the log opened anew", open(t, d, 1), min(n, 3)+1, 4, left...)
	}
	d := disk.New()
	l := open(t, d, 1)
	put(t, l, "1", "2", "3", "4")
	d.Remove("a/w00000002")
	answers(t, "a file is gone", calls{l.Drop(4)}, api.ErrNone)
	on(t, "a file is gone", d, "a/w00000003", form("3"), "a/w00000004", form("4"))
}

// P903: what is answered is new memory.
func TestRecordsAreNew(t *testing.T) {
	d := disk.New()
	put(t, open(t, d, 100), "1", "2")
	l := open(t, d, 100)
	put(t, l, "3", "4")
	for range 2 {
		got := l.Records(0)
		clear(got)
		_ = append(got[:1], "x", "y")
		got = l.Records(2)
		clear(got)
	}
	put(t, l, "5")
	has(t, "as it was", l, 1, 2, "1", "2", "3", "4", "5")
}

// P904
func TestNoLog(t *testing.T) {
	var none *wal.Log
	for _, l := range []*wal.Log{none, {}} {
		for range 2 {
			answers(t, "no log", calls{l.Append(""), l.Append(strings.Repeat("x", 1<<17+1)), l.Sync(), l.Rotate(), l.Drop(0), l.Drop(9)},
				api.ErrArg, api.ErrArg, api.ErrArg, api.ErrArg, api.ErrArg, api.ErrArg)
			has(t, "no log", l, 0, 0)
		}
	}
}

// Two logs on one disk do not know of each other.
func TestLogsApart(t *testing.T) {
	d := disk.New()
	a := open(t, d, 1)
	b, e := wal.Open(d, "a/a", 1)
	if e != api.OK {
		t.Fatal(e)
	}
	put(t, a, "1", "2")
	put(t, b, "x", "y", "z")
	answers(t, "Drop", calls{a.Rotate(), a.Drop(2), b.Drop(3)}, 0, 0, 0)
	has(t, "a", a, 2, 2, "2")
	has(t, "a/a", b, 3, 3, "z")
	has(t, "a, opened anew", open(t, d, 1), 2, 2, "2")
	on(t, "both", d, "a/a/w00000003", form("z"), "a/w00000002", form("2"))
}
