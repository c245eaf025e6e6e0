package disk_test

import (
	"slices"
	"strconv"
	"strings"
	"testing"

	"bedrock/api"
	"bedrock/disk"
)

// with makes a disk that has these files, in pairs of name and bytes, of which nothing is synced.
func with(t *testing.T, pairs ...string) *disk.Disk {
	t.Helper()
	d := disk.New()
	for i := 0; i < len(pairs); i += 2 {
		if e := d.Create(pairs[i]); e != api.OK {
			t.Fatalf("Create(%q): %d", pairs[i], e)
		}
		if e := d.Append(pairs[i], pairs[i+1]); e != api.OK {
			t.Fatalf("Append(%q, %q): %d", pairs[i], pairs[i+1], e)
		}
	}
	return d
}

// has holds the files of a disk that has power against pairs of name and bytes, the names rising.
func has(t *testing.T, what string, d *disk.Disk, pairs ...string) {
	t.Helper()
	var got []string
	used := 0
	for _, name := range d.List("") {
		data, e := d.Read(name)
		if e != api.OK {
			t.Errorf("%s: Read(%q): %d", what, name, e)
		}
		got = append(got, name, data)
		used += len(data)
	}
	if !slices.Equal(got, pairs) {
		t.Errorf("%s: %q, not %q", what, got, pairs)
	}
	if d.Used() != used {
		t.Errorf("%s: Used() is %d, not %d", what, d.Used(), used)
	}
}

// answers holds the Errnos of calls against those that are wanted.
func answers(t *testing.T, what string, got []api.Errno, want ...api.Errno) {
	t.Helper()
	if !slices.Equal(got, want) {
		t.Errorf("%s: %d, not %d", what, got, want)
	}
}

type calls = []api.Errno

// names calls f with what each of the calls that ask for names answers of one.
func names(d *disk.Disk, name string) calls {
	_, e := d.Read(name)
	return calls{e, d.Append(name, "x"), d.Sync(name), d.Rename(name, "free"), d.Rename("taken", name), d.Remove(name), d.Create(name)}
}

// P701
func TestNames(t *testing.T) {
	var good []string
	for c := range 256 {
		name := string([]byte{byte(c)})
		if strings.Contains("abcdefghijklmnopqrstuvwxyz0123456789.-_/", name) {
			good = append(good, name, "a"+name, name+"a")
			continue
		}
		for _, bad := range []string{name, "a" + name, name + "a", strings.Repeat("a", 63) + name} {
			answers(t, strconv.Quote(bad), names(with(t, "taken", ""), bad), api.ErrName, api.ErrName, api.ErrName, api.ErrName, api.ErrName, api.ErrName, api.ErrName)
		}
	}
	good = append(good, strings.Repeat("z", 64), "..", "/", "//", "../a", "log/00-1_x.sst")
	for _, name := range good {
		if !disk.IsName(name) {
			t.Errorf("IsName(%q): false", name)
		}
		answers(t, strconv.Quote(name), names(with(t, "taken", ""), name), api.ErrNone, api.ErrNone, api.ErrNone, api.ErrNone, api.OK, api.OK, api.OK)
	}
	for _, bad := range []string{"", strings.Repeat("z", 65), strings.Repeat("a", 1000), "é", "a b", "a\x00"} {
		if disk.IsName(bad) {
			t.Errorf("IsName(%q): true", bad)
		}
		answers(t, strconv.Quote(bad), names(with(t, "taken", ""), bad), api.ErrName, api.ErrName, api.ErrName, api.ErrName, api.ErrName, api.ErrName, api.ErrName)
	}
}

// P701: a name that is none is told ahead of a file that is none, in either place.
func TestNamesOfRename(t *testing.T) {
	d := with(t, "a", "1")
	answers(t, "Rename", calls{d.Rename("none", "B"), d.Rename("B", "none"), d.Rename("B", "B"), d.Rename("a", ""), d.Rename("", "a")}, api.ErrName, api.ErrName, api.ErrName, api.ErrName, api.ErrName)
	has(t, "Rename", d, "a", "1")
}

// P701
func TestNew(t *testing.T) {
	d := disk.New()
	if !d.On() || d.Used() != 0 || d.Acts() != 0 || len(d.List("")) != 0 {
		t.Errorf("New: %v, %d, %d, %q", d.On(), d.Used(), d.Acts(), d.List(""))
	}
	for i := range 20 {
		name := "f" + strconv.Itoa(i)
		answers(t, "a new disk", calls{d.Create(name), d.Append(name, strings.Repeat("x", 1<<20))}, api.OK, api.OK)
	}
	if d.Used() != 20<<20 || d.Acts() != 40 {
		t.Errorf("%d bytes by %d acts", d.Used(), d.Acts())
	}
}

// P701: no power is told ahead of all else, and nothing is done.
func TestWithoutPower(t *testing.T) {
	d := with(t, "a", "1", "taken", "22")
	d.Crash([]int{9}, 0)
	acts := d.Acts()
	for _, name := range []string{"a", "b", "A", ""} {
		answers(t, strconv.Quote(name), names(d, name), api.ErrOff, api.ErrOff, api.ErrOff, api.ErrOff, api.ErrOff, api.ErrOff, api.ErrOff)
		if data, _ := d.Read(name); data != "" {
			t.Errorf("Read(%q) without power: %q", name, data)
		}
	}
	if l := d.List(""); len(l) != 0 || d.On() || d.Used() != 3 || d.Acts() != acts {
		t.Errorf("without power: %q, %v, %d, %d", l, d.On(), d.Used(), d.Acts())
	}
	d.Restore()
	has(t, "restored", d, "a", "1", "taken", "22")
}

// P702
func TestCreate(t *testing.T) {
	d := disk.New()
	answers(t, "Create", calls{d.Create("a"), d.Create("a"), d.Create("b")}, api.OK, api.ErrThere, api.OK)
	has(t, "Create", d, "a", "", "b", "")
	answers(t, "what is there stays", calls{d.Append("a", "x"), d.Create("a")}, api.OK, api.ErrThere)
	has(t, "what is there stays", d, "a", "x", "b", "")
	if d.Acts() != 3 {
		t.Errorf("%d acts", d.Acts())
	}
}

// P702
func TestCreateTillThereIsNoRoom(t *testing.T) {
	d := disk.New()
	for i := range api.MaxFiles {
		if e := d.Create("f/" + strconv.Itoa(i)); e != api.OK {
			t.Fatalf("file %d: %d", i, e)
		}
	}
	answers(t, "full", calls{d.Create("g"), d.Create("f/0"), d.Create("G"), d.Append("f/0", "x"), d.Rename("f/0", "g"), d.Create("f/0"), d.Create("g")}, api.ErrFull, api.ErrThere, api.ErrName, api.OK, api.OK, api.ErrFull, api.ErrThere)
	if n := len(d.List("")); n != api.MaxFiles || d.Acts() != api.MaxFiles+2 {
		t.Errorf("%d files by %d acts", n, d.Acts())
	}
	answers(t, "room again", calls{d.Remove("g"), d.Create("h"), d.Create("i"), d.Rename("h", "f/1"), d.Create("i")}, api.OK, api.OK, api.ErrFull, api.OK, api.OK)
}

// P702
func TestAppend(t *testing.T) {
	d := with(t, "a", "", "b", "")
	all := strings.Repeat("\x00\xffé\n", 3)
	answers(t, "Append", calls{d.Append("a", "xy"), d.Append("b", all), d.Append("a", ""), d.Append("a", "z\x00"), d.Append("c", "x"), d.Append("c", "")}, api.OK, api.OK, api.OK, api.OK, api.ErrNone, api.ErrNone)
	has(t, "Append", d, "a", "xyz\x00", "b", all)
}

// P702
func TestAppendTooMuch(t *testing.T) {
	const most = 1 << 20
	d := with(t, "a", "", "b", "")
	answers(t, "at once", calls{d.Append("a", strings.Repeat("x", most+1)), d.Append("a", strings.Repeat("x", most)), d.Append("a", "x"), d.Append("a", "")}, api.ErrLong, api.OK, api.ErrLong, api.OK)
	answers(t, "bit by bit", calls{d.Append("b", "12"), d.Append("b", strings.Repeat("x", most-1)), d.Append("b", strings.Repeat("x", most-3)), d.Append("b", "34"), d.Append("b", "3"), d.Append("b", "4")}, api.OK, api.ErrLong, api.OK, api.ErrLong, api.OK, api.ErrLong)
	d.Quota(0)
	answers(t, "long ahead of full", calls{d.Append("a", "x"), d.Append("c", "x"), d.Append("b", "")}, api.ErrLong, api.ErrNone, api.OK)
	has(t, "too much", d, "a", strings.Repeat("x", most), "b", "12"+strings.Repeat("x", most-3)+"3")
}

// P702, P703
func TestQuota(t *testing.T) {
	d := with(t, "a", "12", "b", "345")
	d.Quota(7)
	answers(t, "7", calls{d.Append("a", "678"), d.Append("a", "67"), d.Append("b", "8"), d.Append("b", ""), d.Create("c"), d.Append("c", "8")}, api.ErrFull, api.OK, api.ErrFull, api.OK, api.OK, api.ErrFull)
	d.Quota(8)
	answers(t, "8", calls{d.Append("c", "89"), d.Append("c", "8"), d.Append("c", "9")}, api.ErrFull, api.OK, api.ErrFull)
	d.Quota(3)
	answers(t, "less than there is", calls{d.Append("a", "x"), d.Append("a", ""), d.Sync("a"), d.Rename("c", "d"), d.Remove("a"), d.Append("d", "x"), d.Remove("b"), d.Append("d", "xyz"), d.Append("d", "xy"), d.Append("d", "z")}, api.ErrFull, api.OK, api.OK, api.OK, api.OK, api.ErrFull, api.OK, api.ErrFull, api.OK, api.ErrFull)
	has(t, "less than there is", d, "d", "8xy")
	for _, n := range []int{-1, -1 << 63, 1<<63 - 1} {
		d.Quota(0)
		answers(t, "0", calls{d.Append("d", "z"), d.Append("d", "")}, api.ErrFull, api.OK)
		d.Quota(n)
		answers(t, strconv.Itoa(n), calls{d.Append("d", "z")}, api.OK)
	}
}

// P702, P703: room comes back by what is renamed over and by what is torn; the quota stays without power.
func TestQuotaHasRoomAgain(t *testing.T) {
	d := with(t, "a", "1234", "b", "56", "c", "7")
	d.Quota(7)
	answers(t, "renamed over", calls{d.Append("c", "8"), d.Rename("c", "a"), d.Append("a", "890ab"), d.Append("a", "890a"), d.Append("b", "x")}, api.ErrFull, api.OK, api.ErrFull, api.OK, api.ErrFull)
	answers(t, "the same", calls{d.Rename("a", "a"), d.Append("a", "x")}, api.OK, api.ErrFull)
	d.Crash([]int{1, 0}, 0)
	d.Restore()
	has(t, "torn", d, "a", "7", "b", "")
	answers(t, "torn", calls{d.Append("b", "1234567"), d.Append("b", "123456"), d.Append("b", "7")}, api.ErrFull, api.OK, api.ErrFull)
	d.Crash(nil, 0)
	d.Quota(2)
	d.Restore()
	answers(t, "said without power", calls{d.Append("b", "12"), d.Append("b", "1")}, api.ErrFull, api.OK)
}

// P702
func TestSync(t *testing.T) {
	d := with(t, "a", "12", "b", "34")
	answers(t, "Sync", calls{d.Sync("a"), d.Append("a", "56"), d.Append("b", "78"), d.Sync("c"), d.Create("c"), d.Sync("c")}, api.OK, api.OK, api.OK, api.ErrNone, api.OK, api.OK)
	has(t, "all bytes are read", d, "a", "1256", "b", "3478", "c", "")
	d.Crash(nil, 0)
	d.Restore()
	has(t, "the first ones stay", d, "a", "12", "b", "", "c", "")
}

// P702
func TestRename(t *testing.T) {
	d := with(t, "a", "12", "b", "345", "c", "6")
	answers(t, "Rename", calls{d.Rename("a", "d"), d.Rename("a", "d"), d.Rename("c", "b"), d.Rename("b", "b"), d.Rename("x", "x"), d.Rename("x", "b")}, api.OK, api.ErrNone, api.OK, api.OK, api.ErrNone, api.ErrNone)
	has(t, "Rename", d, "b", "6", "d", "12")
	answers(t, "a free name", calls{d.Create("a"), d.Append("a", "7"), d.Append("b", "8"), d.Append("d", "9")}, api.OK, api.OK, api.OK, api.OK)
	has(t, "a free name", d, "a", "7", "b", "68", "d", "129")
}

// P702: what of a file is synced goes with it.
func TestRenameKeepsWhatIsSynced(t *testing.T) {
	d := with(t, "a", "12", "b", "3456")
	answers(t, "", calls{d.Sync("a"), d.Append("a", "7"), d.Sync("b"), d.Rename("a", "b"), d.Rename("b", "b"), d.Append("b", "8")}, api.OK, api.OK, api.OK, api.OK, api.OK, api.OK)
	d.Crash(nil, 0)
	d.Restore()
	has(t, "synced as it was", d, "b", "12")
}

// P702
func TestRemove(t *testing.T) {
	d := with(t, "a", "12", "b", "345")
	answers(t, "Remove", calls{d.Sync("a"), d.Remove("a"), d.Remove("a"), d.Remove("c")}, api.OK, api.OK, api.ErrNone, api.ErrNone)
	has(t, "Remove", d, "b", "345")
	answers(t, "as new", calls{d.Create("a"), d.Append("a", "x")}, api.OK, api.OK)
	d.Crash(nil, 0)
	d.Restore()
	has(t, "as new", d, "a", "", "b", "")
}

// P703
func TestRead(t *testing.T) {
	d := with(t, "a", "12")
	for _, c := range []struct {
		name, data string
		e          api.Errno
	}{
		{"a", "12", api.OK},
		{"b", "", api.ErrNone},
		{"aa", "", api.ErrNone},
		{"A", "", api.ErrName},
		{"", "", api.ErrName},
	} {
		if data, e := d.Read(c.name); data != c.data || e != c.e {
			t.Errorf("Read(%q): %q, %d, not %q, %d", c.name, data, e, c.data, c.e)
		}
	}
	before, _ := d.Read("a")
	answers(t, "later acts", calls{d.Append("a", "34"), d.Sync("a"), d.Append("a", "5")}, api.OK, api.OK, api.OK)
	d.Crash([]int{1}, 1)
	if before != "12" {
		t.Errorf("what was read is now %q", before)
	}
}

// P703
func TestList(t *testing.T) {
	d := disk.New()
	rising := []string{"-", ".", "/", "0", "00", "1", "10", "2", "_", "a", "a-", "a.b", "a/b", "aa", "ab", "b", "ba", "z"}
	for i := range rising {
		d.Create(rising[(i*7)%len(rising)])
	}
	for _, c := range []struct {
		prefix string
		want   []string
	}{
		{"", rising},
		{"a", []string{"a", "a-", "a.b", "a/b", "aa", "ab"}},
		{"a.", []string{"a.b"}},
		{"ab", []string{"ab"}},
		{"b", []string{"b", "ba"}},
		{"abc", nil},
		{"1", []string{"1", "10"}},
		{"A", nil},
		{"\x00", nil},
		{strings.Repeat("a", 100), nil},
	} {
		if l := d.List(c.prefix); !slices.Equal(l, c.want) {
			t.Errorf("List(%q): %q, not %q", c.prefix, l, c.want)
		}
	}
	l := d.List("")
	clear(l)
	if !slices.Equal(d.List(""), rising) {
		t.Errorf("a changed list changes the disk: %q", d.List(""))
	}
}

// P703: what is only asked is no act, nor is what is refused.
func TestActs(t *testing.T) {
	d := disk.New()
	d.Quota(3)
	for i, c := range []struct {
		act  func() api.Errno
		done int
	}{
		{func() api.Errno { return d.Create("a") }, 1},
		{func() api.Errno { return d.Create("a") }, 0},
		{func() api.Errno { return d.Create("A") }, 0},
		{func() api.Errno { return d.Append("a", "xyz") }, 1},
		{func() api.Errno { return d.Append("a", "") }, 1},
		{func() api.Errno { return d.Append("a", "x") }, 0},
		{func() api.Errno { return d.Append("b", "") }, 0},
		{func() api.Errno { return d.Append("a", strings.Repeat("x", 1<<20)) }, 0},
		{func() api.Errno { return d.Sync("a") }, 1},
		{func() api.Errno { return d.Sync("a") }, 1},
		{func() api.Errno { return d.Sync("b") }, 0},
		{func() api.Errno { return d.Rename("a", "a") }, 1},
		{func() api.Errno { return d.Rename("a", "b") }, 1},
		{func() api.Errno { return d.Rename("a", "b") }, 0},
		{func() api.Errno { return d.Remove("a") }, 0},
		{func() api.Errno { _, e := d.Read("b"); return e }, 0},
		{func() api.Errno {
			d.List("")
			d.Used()
			d.On()
			d.Quota(5)
			d.Fuse(9, nil, 0)
			d.Twin()
			return api.OK
		}, 0},
		{func() api.Errno { d.Crash(nil, 0); return d.Create("c") }, 0},
		{func() api.Errno { d.Restore(); return api.OK }, 0},
		{func() api.Errno { return d.Remove("b") }, 1},
	} {
		before := d.Acts()
		if e := c.act(); d.Acts()-before != c.done {
			t.Errorf("call %d, which answers %d: %d acts, not %d", i, e, d.Acts()-before, c.done)
		}
	}
}
