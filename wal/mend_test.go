package wal_test

import (
	"fmt"
	"math"
	"strings"
	"testing"

	"bedrock/api"
	"bedrock/disk"
	"bedrock/wal"
)

// with makes a disk on which the log a has such segments, from number 1 on.
func with(t *testing.T, segments ...string) *disk.Disk {
	t.Helper()
	d := disk.New()
	for i, data := range segments {
		lay(t, d, fmt.Sprintf("a/w%08x", i+1), data)
	}
	return d
}

// changed tells bytes of which the one at i has other bits.
func changed(b string, i int, bits byte) string {
	c := []byte(b)
	c[i] ^= bits
	return string(c)
}

// tails are bytes behind which a segment is not whole, whatever is ahead of them.
func tails() []string {
	noughts := strings.Repeat("\x00", 8)
	tails := []string{
		"x",
		noughts,
		noughts[:4] + "\x48\x67\x4b\xc7", // the sum of these four bytes: a length counts from 1 on
		noughts + form("three"),
		"\xff\xff\xff\xff\xff\xff\xff\xff" + strings.Repeat("x", 100),
		form(strings.Repeat("x", 1<<17+1)),
		form(strings.Repeat("x", 1<<18)),
		form("three") + "x",
		form("three")[4:],
	}
	for _, rec := range []string{form(""), form("three")} {
		for i := range rec {
			if i > 0 {
				tails = append(tails, rec[:i])
			}
			tails = append(tails, changed(rec, i, 1), changed(rec, i, 128)+form("four"))
		}
	}
	return tails
}

// P901: the last segment is left with its records alone.
func TestMend(t *testing.T) {
	for _, tail := range tails() {
		for _, records := range [][]string{nil, {"one", "", "two"}} {
			d := with(t, form("zero"), form(records...)+tail)
			want := append([]string{"zero"}, records...)
			if strings.HasPrefix(tail, form("three")) {
				want, records = append(want, "three"), append(records, "three")
			}
			acts := d.Acts()
			l := open(t, d, 100)
			has(t, fmt.Sprintf("%x", tail), l, 1, 2, want...)
			if d.Acts()-acts != 4 {
				t.Errorf("%x: %d acts", tail, d.Acts()-acts)
			}
			fail(d)
			on(t, fmt.Sprintf("%x", tail), d, "a/w00000001", form("zero"), "a/w00000002", form(records...))
			put(t, l, "on")
			has(t, "on", l, 1, 3, append(want, "on")...)
			acts = d.Acts()
			open(t, d, 100)
			if acts != d.Acts() {
				t.Errorf("%x: it is mended twice, by %d acts", tail, d.Acts()-acts)
			}
		}
	}
}

// P901: a record has at most 2^17 bytes, and a whole segment is left as it is.
func TestWholeSegments(t *testing.T) {
	most := strings.Repeat("m", 1<<17)
	for _, records := range [][]string{nil, {""}, {"", "", ""}, {most}, {"x", most, ""}, {most, most, most, most, most, most, most}} {
		d := with(t, form(records...), form(records...))
		acts := d.Acts()
		has(t, "whole", open(t, d, 1), 1, 2, append(append([]string{}, records...), records...)...)
		if d.Acts() != acts {
			t.Errorf("%d acts", d.Acts()-acts)
		}
	}
}

// P901: where the last segment is whole Open does nothing to the disk, whoever
// wrote what is there and whether it was synced or not.
func TestOpenOfAWholeLogDoesNothing(t *testing.T) {
	for _, records := range [][]string{{""}, {"one"}, {"one", "", "two"}, {"one", "0123456789"}, {"0123456789", "0123456789", "x"}} {
		for _, synced := range []bool{false, true} {
			d := disk.New()
			lay(t, d, "a/mend", "junk")
			l := open(t, d, 20)
			put(t, l, records...)
			if synced {
				answers(t, "Sync", calls{l.Sync()}, api.OK)
			}
			last, acts, before, twin := l.Last(), d.Acts(), files(d), d.Twin()
			d.Fuse(0, []int{9}, 1)
			has(t, "whole", open(t, d, 20), 1, last, records...)
			if d.Acts() != acts || !d.On() {
				t.Errorf("%q: %d acts, power %v", records, d.Acts()-acts, d.On())
			}
			on(t, "whole", d, before...)
			l = open(t, d, 20)
			answers(t, "no segment is open", calls{l.Sync(), l.Rotate()}, api.OK, api.OK)
			answers(t, "the power fails behind Open", calls{l.Append("on")}, api.ErrOff)

			d.Restore() // what was synced is what it would be without the Opens
			twin.Crash([]int{9}, 1)
			twin.Restore()
			on(t, "behind the failure", d, files(twin)...)
		}
	}
}

// P901: a file of an earlier mending is in nobody's way.
func TestMendTwice(t *testing.T) {
	d := with(t, form("one")+"x")
	lay(t, d, "a/mend", form("one", "junk"))
	acts := d.Acts()
	has(t, "mended", open(t, d, 20), 1, 1, "one")
	on(t, "mended", d, "a/w00000001", form("one"))
	if d.Acts()-acts != 5 {
		t.Errorf("%d acts", d.Acts()-acts)
	}
}

// P901: the disk's first error; the next Open mends.
func TestMendWherePowerFails(t *testing.T) {
	for _, junk := range []bool{false, true} {
		acts := 4
		if junk {
			acts = 5
		}
		for n := range acts + 2 {
			for _, cut := range []int{0, 1, 9, 99} {
				d := with(t, form("zero"), form("one")+"x")
				if junk {
					lay(t, d, "a/mend", "junk")
				}
				d.Fuse(n, []int{cut}, 1)
				l, e := wal.Open(d, "a", 20)
				if want := n < acts; want != (e == api.ErrOff) || want == (e == api.OK) || want != (l == nil) {
					t.Errorf("a fuse of %d: %v, %d", n, l, e)
				}
				d.Fuse(-1, nil, 0)
				d.Restore()
				has(t, "the next one", open(t, d, 20), 1, 2, "zero", "one")
				on(t, "the next one", d, "a/w00000001", form("zero"), "a/w00000002", form("one"))
			}
		}
	}
}

// full makes a log that could not be mended, and its disk, which has no room but for what is there.
func full(t *testing.T, segments ...string) (*wal.Log, *disk.Disk) {
	t.Helper()
	d := with(t, segments...)
	d.Quota(d.Used())
	l := open(t, d, 100)
	if d.List("a/mend") != nil {
		t.Errorf("the file of the mending stays")
	}
	return l, d
}

// P901: a log without room for mending has its records, and is mended by what comes.
func TestMendWithoutRoom(t *testing.T) {
	long := strings.Repeat("x", 1<<17+1)
	l, d := full(t, form("one"), form("two", "three")+"torn")
	for range 2 {
		answers(t, "no room", calls{l.Append(""), l.Append(long), l.Rotate(), l.Sync()}, api.ErrFull, api.ErrLong, api.ErrFull, api.OK)
		has(t, "no room", l, 1, 2, "one", "two", "three")
		on(t, "no room", d, "a/w00000001", form("one"), "a/w00000002", form("two", "three")+"torn")
	}
	d.Quota(d.Used() + len(form("two", "three")) - 1)
	answers(t, "one byte too few", calls{l.Append(""), l.Rotate()}, api.ErrFull, api.ErrFull)
	d.Quota(d.Used() + len(form("two", "three")))
	answers(t, "too long", calls{l.Append(long)}, api.ErrLong)
	on(t, "too long", d, "a/w00000001", form("one"), "a/w00000002", form("two", "three")+"torn")
	u := d.Twin()
	answers(t, "room", calls{l.Append("four"), l.Rotate()}, api.OK, api.OK)
	has(t, "room", l, 1, 3, "one", "two", "three", "four")
	on(t, "room", d, "a/w00000001", form("one"), "a/w00000002", form("two", "three"), "a/w00000003", form("four"))

	u.Quota(u.Used())
	l = open(t, u, 100)
	u.Quota(-1)
	acts := u.Acts()
	answers(t, "Rotate mends", calls{l.Rotate(), l.Rotate()}, api.OK, api.OK)
	on(t, "Rotate mends", u, "a/w00000001", form("one"), "a/w00000002", form("two", "three"))
	has(t, "Rotate mends", l, 1, 2, "one", "two", "three")
	if u.Acts()-acts != 4 {
		t.Errorf("Rotate mends by %d acts", u.Acts()-acts)
	}
}

// P901: mended, but no room for the record.
func TestMendAheadOfARecordWithoutRoom(t *testing.T) {
	l, d := full(t, form("one")+"torn")
	d.Quota(d.Used() + len(form("one")))
	answers(t, "no room for it", calls{l.Append(strings.Repeat("x", 100))}, api.ErrFull)
	has(t, "no room for it", l, 1, 2, "one")
	on(t, "no room for it", d, "a/w00000001", form("one"), "a/w00000002", "")
}

// P901: no room for a file more.
func TestMendWithoutFiles(t *testing.T) {
	d := with(t, form("one")+"torn")
	for i := range api.MaxFiles - 1 {
		d.Create(fmt.Sprint(i))
	}
	l := open(t, d, 20)
	has(t, "no file", l, 1, 1, "one")
	answers(t, "no file", calls{l.Append("x"), l.Rotate(), l.Sync()}, api.ErrFull, api.ErrFull, api.OK)
	d.Remove("0")
	answers(t, "one file, which comes back", calls{l.Append("x")}, api.OK)
	has(t, "mended", l, 1, 2, "one", "x")
}

// P901: an empty good part needs no room.
func TestMendOfNothing(t *testing.T) {
	_, d := full(t, "torn")
	on(t, "mended", d, "a/w00000001", "")
}

// P901: what was there of an earlier mending makes room.
func TestMendInTheRoomOfAnOldOne(t *testing.T) {
	d := with(t, form("one")+"x")
	lay(t, d, "a/mend", strings.Repeat("j", len(form("one"))))
	d.Quota(d.Used())
	has(t, "mended", open(t, d, 20), 1, 1, "one")
	on(t, "mended", d, "a/w00000001", form("one"))
}

// P901: the segment that could not be mended is removed.
func TestDropOfWhatIsNotMended(t *testing.T) {
	l, d := full(t, form("one"), form("two")+"torn")
	answers(t, "the others", calls{l.Drop(2)}, api.OK)
	has(t, "the others", l, 2, 2, "two")
	d.Quota(d.Used())
	answers(t, "not mended yet", calls{l.Rotate(), l.Append("")}, api.ErrFull, api.ErrFull)
	d.Fuse(0, nil, 0)
	answers(t, "without power", calls{l.Drop(3), l.Rotate()}, api.ErrOff, api.ErrOff)
	d.Restore()
	answers(t, "all", calls{l.Rotate(), l.Drop(math.MaxInt), l.Rotate(), l.Append("x")}, api.ErrFull, api.OK, api.OK, api.OK)
	has(t, "all", l, 1, 1, "x")
	on(t, "all", d, "a/w00000001", form("x"))
}

// P901: where the power fails as well, that is told.
func TestMendWithoutRoomOrPower(t *testing.T) {
	for n := range 4 {
		d := with(t, form("one")+"torn")
		d.Quota(d.Used())
		d.Fuse(n, []int{99}, 0)
		l, e := wal.Open(d, "a", 20)
		if want := n < 2; want != (e == api.ErrOff) || want == (e == api.OK) || want != (l == nil) {
			t.Errorf("a fuse of %d: %v, %d", n, l, e)
		}
		d.Fuse(-1, nil, 0)
		d.Restore()
		l = open(t, d, 20)
		has(t, "the next one", l, 1, 1, "one")
		if len(d.List("")) != 1 {
			t.Errorf("a fuse of %d: %q", n, d.List(""))
		}
		d.Quota(-1)
		d.Fuse(n, nil, 0)
		answers(t, "in Append", calls{l.Append("x")}, api.ErrOff)
		d.Restore()
		has(t, "no record more", l, 1, 1, "one")
		has(t, "the next one", open(t, d, 20), 1, 1, "one")
	}
}

// P901, P905: a segment but the last one is not whole.
func TestCorrupt(t *testing.T) {
	for _, tail := range tails() {
		for _, ahead := range []string{"", form("one"), form("", "")} {
			for _, behind := range []string{"", form("two"), "torn"} {
				d := with(t, form("zero"), ahead+tail, behind)
				lay(t, d, "a/mend", "junk")
				before, acts := files(d), d.Acts()
				if l, e := wal.Open(d, "a", 20); e != api.ErrCorrupt || l != nil {
					t.Errorf("%x: %v, %d", ahead+tail, l, e)
				}
				on(t, "nothing has changed", d, before...)
				if d.Acts() != acts {
					t.Errorf("%d acts", d.Acts()-acts)
				}
			}
		}
	}
}

// P905: a byte that is changed behind the first eight of a record is told.
func TestChangedBytes(t *testing.T) {
	d := disk.New()
	l := open(t, d, 40)
	put(t, l, "one", "", strings.Repeat("two", 20), "\x00\x00\x00\x00\x00\x00\x00\x01", "three", "last", strings.Repeat("x", 100))
	for _, name := range d.List("a/")[:l.Last()-1] {
		data, _ := d.Read(name)
		end := 0 // of the eight bytes ahead of a record
		for i := range data {
			if i == end {
				n := int(data[i+2])<<8 | int(data[i+3]) - 1
				end += 8 + n
			}
			for _, bits := range []byte{1, 2, 16, 128, 255} {
				u := d.Twin()
				lay(t, u, name, changed(data, i, bits))
				l, e := wal.Open(u, "a", 40)
				if e != api.ErrCorrupt || l != nil {
					t.Errorf("%s, byte %d: %v, %d", name, i, l, e)
				}
			}
		}
	}
}

// P905: in the last segment it is nowhere read.
func TestChangedBytesOfTheLastSegment(t *testing.T) {
	data := form("one", "two", "three")
	for i := range data {
		d := with(t, form("zero"), changed(data, i, 4))
		l := open(t, d, 20)
		want := []string{"zero", "one", "two"}[:1+min(i/len(form("one")), 2)]
		has(t, fmt.Sprint(i), l, 1, 2, want...)
	}
}
