package disk_test

import (
	"slices"
	"strings"
	"testing"

	"bedrock/api"
	"bedrock/disk"
)

// torn makes a disk of files a to d, in that order of names; each has "S" synced and then what is given.
func torn(t *testing.T, a, b, c, d string) *disk.Disk {
	t.Helper()
	x := disk.New()
	for i, s := range []string{c, a, d, b} {
		name := []string{"c", "a", "d", "b"}[i]
		answers(t, name, calls{x.Create(name), x.Append(name, "S"), x.Sync(name), x.Append(name, s)}, api.OK, api.OK, api.OK, api.OK)
	}
	return x
}

// P704
func TestCrash(t *testing.T) {
	const most, least = 1<<63 - 1, -1 << 63
	for _, c := range []struct {
		cuts []int
		flip int
		want [4]string
	}{
		{nil, 0, [4]string{"S", "S", "S", "S"}},
		{nil, 1, [4]string{"S", "S", "S", "S"}},
		{[]int{}, 255, [4]string{"S", "S", "S", "S"}},
		{[]int{0}, 1, [4]string{"S", "S", "S", "S"}},
		{[]int{-1}, 1, [4]string{"S", "S", "S", "S"}},
		{[]int{least}, 1, [4]string{"S", "S", "S", "S"}},
		{[]int{1}, 0, [4]string{"S1", "Sa", "S", "Sw"}},
		{[]int{1}, 1, [4]string{"S0", "S`", "S", "Sv"}},
		{[]int{2}, 0, [4]string{"S12", "Sa", "S", "Swx"}},
		{[]int{2}, 3, [4]string{"S11", "Sb", "S", "Sw{"}},
		{[]int{3}, 128, [4]string{"S12\xb3", "S\xe1", "S", "Swx\xf9"}},
		{[]int{4}, 255, [4]string{"S12\xcc", "S\x9e", "S", "Swxy\x85"}},
		{[]int{most}, 0, [4]string{"S123", "Sa", "S", "Swxyz"}},
		{[]int{most}, 256, [4]string{"S123", "Sa", "S", "Swxyz"}},
		{[]int{most}, 257, [4]string{"S123", "Sa", "S", "Swxyz"}},
		{[]int{most}, -1, [4]string{"S123", "Sa", "S", "Swxyz"}},
		{[]int{most}, most, [4]string{"S123", "Sa", "S", "Swxyz"}},
		{[]int{most}, least, [4]string{"S123", "Sa", "S", "Swxyz"}},
		{[]int{2, 0}, 0, [4]string{"S12", "S", "S", "S"}},
		{[]int{0, 2}, 0, [4]string{"S", "Sa", "S", "Swx"}},
		{[]int{1, 0, 9}, 0, [4]string{"S1", "S", "S", "Sw"}},
		{[]int{0, -5, 9, 3}, 1, [4]string{"S", "S", "S", "Swxx"}},
		{[]int{3, 1, 0, 0, 9}, 0, [4]string{"S123", "Sa", "S", "S"}},
	} {
		d := torn(t, "123", "a", "", "wxyz")
		cuts := slices.Clone(c.cuts)
		d.Crash(cuts, c.flip)
		if !slices.Equal(cuts, c.cuts) {
			t.Errorf("Crash changes its cuts %d to %d", c.cuts, cuts)
		}
		if used := len(c.want[0] + c.want[1] + c.want[2] + c.want[3]); d.On() || d.Used() != used {
			t.Errorf("Crash(%d, %d): %v, %d bytes, not %d", c.cuts, c.flip, d.On(), d.Used(), used)
		}
		d.Restore()
		if !d.On() {
			t.Errorf("Restore: no power")
		}
		has(t, "torn", d, "a", c.want[0], "b", c.want[1], "c", c.want[2], "d", c.want[3])
		// All that is left is synced: nothing more of it goes, nor is it changed.
		d.Crash(nil, 0)
		d.Restore()
		d.Crash([]int{9}, 7)
		d.Restore()
		has(t, "torn twice", d, "a", c.want[0], "b", c.want[1], "c", c.want[2], "d", c.want[3])
	}
}

// P704: what was cut does not come back behind what is appended later.
func TestCrashAndOn(t *testing.T) {
	d := torn(t, "123456", "", "", "")
	d.Crash([]int{2}, 0)
	d.Restore()
	answers(t, "on", calls{d.Append("a", "x"), d.Sync("a"), d.Append("a", "yz")}, api.OK, api.OK, api.OK)
	d.Crash([]int{1}, 1)
	d.Restore()
	has(t, "on", d, "a", "S12xx", "b", "S", "c", "S", "d", "S")
}

// P704
func TestCrashWithoutPower(t *testing.T) {
	d := with(t, "a", "12")
	d.Restore()
	has(t, "Restore with power", d, "a", "12")
	d.Crash([]int{1}, 0)
	d.Crash(nil, 255)
	d.Crash([]int{0}, 1)
	d.Restore()
	d.Restore()
	has(t, "one crash", d, "a", "1")
}

// fused tells what a row of acts answers of a disk with a fuse, and whether it has power then.
func fused(n int) (calls, *disk.Disk) {
	d := disk.New()
	d.Create("a")
	d.Append("a", "12")
	d.Fuse(n, []int{1}, 1)
	return calls{d.Create("b"), d.Append("a", "34"), d.Sync("a"), d.Rename("a", "c"), d.Remove("c")}, d
}

// P701, P704
func TestFuse(t *testing.T) {
	const off = api.ErrOff
	for _, c := range []struct {
		n     int
		want  calls
		acts  int
		files []string
	}{
		{0, calls{off, off, off, off, off}, 2, []string{"a", "0"}},
		{1, calls{0, off, off, off, off}, 3, []string{"a", "0", "b", ""}},
		{2, calls{0, 0, off, off, off}, 4, []string{"a", "0", "b", ""}},
		{3, calls{0, 0, 0, off, off}, 5, []string{"a", "1234", "b", ""}},
		{4, calls{0, 0, 0, 0, off}, 6, []string{"b", "", "c", "1234"}},
		{5, calls{0, 0, 0, 0, 0}, 7, []string{"b", ""}},
		{1<<63 - 1, calls{0, 0, 0, 0, 0}, 7, []string{"b", ""}},
		{-1, calls{0, 0, 0, 0, 0}, 7, []string{"b", ""}},
		{-1 << 63, calls{0, 0, 0, 0, 0}, 7, []string{"b", ""}},
	} {
		got, d := fused(c.n)
		answers(t, "a fuse", got, c.want...)
		if d.Acts() != c.acts || d.On() != (c.want[4] == api.OK) {
			t.Errorf("a fuse of %d: %d acts, power %v", c.n, d.Acts(), d.On())
		}
		d.Restore()
		has(t, "a fuse", d, c.files...)
	}
}

// P701: each of the acts may be the one at which the power fails.
func TestFuseAtEachAct(t *testing.T) {
	for i := range 6 {
		d := with(t, "a", "12")
		d.Fuse(0, []int{9}, 0)
		act := []func() api.Errno{
			func() api.Errno { return d.Create("b") },
			func() api.Errno { return d.Append("a", "3") },
			func() api.Errno { return d.Append("a", "") },
			func() api.Errno { return d.Sync("a") },
			func() api.Errno { return d.Rename("a", "a") },
			func() api.Errno { return d.Remove("a") },
		}[i]
		answers(t, "an act", calls{act(), act()}, api.ErrOff, api.ErrOff)
		d.Restore()
		has(t, "not done", d, "a", "12")
		// The fuse is gone.
		if e := act(); e != api.OK || !d.On() || d.Acts() != 3 {
			t.Errorf("act %d again: %d, %v, %d", i, e, d.On(), d.Acts())
		}
	}
}

// P701: what would not answer OK, and what is no act, does not ask the fuse.
func TestFuseIsAskedLast(t *testing.T) {
	d := with(t, "a", "12")
	d.Quota(2)
	d.Fuse(0, nil, 0)
	answers(t, "refused", calls{d.Create("a"), d.Create("A"), d.Append("a", "3"), d.Append("b", "3"), d.Append("a", strings.Repeat("x", 1<<20)), d.Sync("b"), d.Sync(""), d.Rename("b", "a"), d.Rename("a", "B"), d.Remove("b")},
		api.ErrThere, api.ErrName, api.ErrFull, api.ErrNone, api.ErrLong, api.ErrNone, api.ErrName, api.ErrNone, api.ErrName, api.ErrNone)
	has(t, "only asked", d, "a", "12")
	answers(t, "done", calls{d.Append("a", "")}, api.ErrOff)
	d.Restore()
	has(t, "done", d, "a", "")
}

// P704: the cuts are those that were handed in.
func TestFuseKeepsItsCuts(t *testing.T) {
	d := with(t, "a", "12", "b", "34")
	cuts := make([]int, 2, 4)
	cuts[0], cuts[1] = 1, 2
	d.Fuse(0, cuts, 0)
	cuts[0], cuts[1] = 0, 0
	answers(t, "", calls{d.Sync("a")}, api.ErrOff)
	d.Restore()
	has(t, "cuts", d, "a", "1", "b", "34")
}

// P704: a fuse is there till it is asked at 0 or there is another one, without power too.
func TestFuseStays(t *testing.T) {
	d := with(t, "a", "12")
	d.Fuse(1, []int{9}, 0)
	d.Crash([]int{9}, 0)
	answers(t, "no power", calls{d.Sync("a"), d.Sync("a"), d.Sync("a")}, api.ErrOff, api.ErrOff, api.ErrOff)
	d.Restore()
	answers(t, "as it was", calls{d.Append("a", "34"), d.Sync("a")}, api.OK, api.ErrOff)
	d.Fuse(2, nil, 0)
	d.Fuse(0, []int{1}, 0)
	d.Restore()
	answers(t, "the last one", calls{d.Sync("a")}, api.ErrOff)
	d.Fuse(0, nil, 0)
	d.Fuse(-1, nil, 0)
	d.Restore()
	answers(t, "none any more", calls{d.Sync("a"), d.Sync("a")}, api.OK, api.OK)
	has(t, "fuses", d, "a", "1234")
}

// P704
func TestTwin(t *testing.T) {
	d := torn(t, "123", "", "", "4")
	d.Quota(10)
	d.Fuse(2, []int{2, 0}, 1)
	u := d.Twin()
	if !u.On() || u.Used() != d.Used() || u.Acts() != d.Acts() {
		t.Errorf("Twin: %v, %d, %d", u.On(), u.Used(), u.Acts())
	}
	has(t, "alike", u, "a", "S123", "b", "S", "c", "S", "d", "S4")
	// Whatever happens to the one, the other one stays, and has a fuse of its own.
	answers(t, "the first", calls{d.Append("a", "56"), d.Append("b", "78"), d.Sync("b"), d.Create("e"), d.Sync("a")}, api.OK, api.ErrFull, api.OK, api.ErrOff, api.ErrOff)
	has(t, "apart", u, "a", "S123", "b", "S", "c", "S", "d", "S4")
	answers(t, "the second", calls{u.Append("b", "78"), u.Remove("d"), u.Append("d", "7"), u.Rename("a", "e")}, api.OK, api.OK, api.ErrNone, api.ErrOff)
	d.Restore()
	u.Restore()
	has(t, "the first", d, "a", "S13", "b", "S", "c", "S", "d", "S")
	has(t, "the second", u, "a", "S13", "b", "S", "c", "S")
	answers(t, "the second's quota", calls{u.Append("b", "12345"), u.Append("b", "6")}, api.OK, api.ErrFull)
}

// P704
func TestTwinOfNoPower(t *testing.T) {
	d := with(t, "a", "1")
	d.Crash([]int{1}, 0)
	u := d.Twin()
	d.Restore()
	if u.On() || u.Used() != 1 || u.Create("b") != api.ErrOff {
		t.Errorf("a twin of a disk without power has some")
	}
	u.Restore()
	has(t, "restored", u, "a", "1")
	answers(t, "no fuse, no quota", calls{u.Append("a", "234"), u.Create("b"), u.Sync("a")}, api.OK, api.OK, api.OK)
}

// P705
func TestNoDisk(t *testing.T) {
	var none *disk.Disk
	for _, d := range []*disk.Disk{none, {}, (&disk.Disk{}).Twin()} {
		for range 2 {
			for _, name := range []string{"a", "A"} {
				answers(t, "no disk", names(d, name), api.ErrOff, api.ErrOff, api.ErrOff, api.ErrOff, api.ErrOff, api.ErrOff, api.ErrOff)
			}
			if data, _ := d.Read("a"); data != "" || len(d.List("")) != 0 || d.Used() != 0 || d.Acts() != 0 || d.On() {
				t.Errorf("no disk has something")
			}
			d.Restore()
			d.Quota(-1)
			d.Fuse(0, []int{1}, 1)
			d.Crash([]int{1}, 1)
			d.Restore()
			d.Fuse(-1, nil, 0)
			d.Quota(5)
		}
	}
	if none.Twin() != nil {
		t.Errorf("nil has a twin")
	}
	zero := &disk.Disk{}
	if u := zero.Twin(); u == nil || u == zero {
		t.Errorf("a zero disk's twin is no zero one of its own")
	}
	used := zero
	used.Restore()
	used.Quota(3)
	used.Fuse(3, []int{1}, 1)
	used.Create("a")
	if u := used.Twin(); u == nil || u.On() || u.Create("a") != api.ErrOff {
		t.Errorf("a zero disk's twin has power")
	}
}
