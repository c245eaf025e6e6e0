package manifest_test

import (
	"fmt"
	"slices"
	"strings"
	"testing"

	"bedrock/api"
	"bedrock/disk"
	"bedrock/manifest"
)

const most = 20 // files of a manifest

// open opens a manifest that has to be one.
func open(t *testing.T, d *disk.Disk) *manifest.Manifest {
	t.Helper()
	m, e := manifest.Open(d, "a")
	if e != api.OK || m == nil || m.Stuck() {
		t.Fatalf("Open: %v, %d", m != nil, e)
	}
	return m
}

// done holds what calls tell against OK.
func done(t *testing.T, what string, l ...api.Errno) {
	t.Helper()
	for i, e := range l {
		if e != api.OK {
			t.Fatalf("%s: call %d: %d", what, i, e)
		}
	}
}

// says holds a manifest, and what is read anew, against a state.
func says(t *testing.T, what string, d *disk.Disk, m *manifest.Manifest, want api.State) {
	t.Helper()
	if s := m.State(); !same(s, want) {
		t.Errorf("%s: %s, not %s", what, short(s), short(want))
	}
	if s := open(t, d).State(); !same(s, want) {
		t.Errorf("%s: read anew: %s, not %s", what, short(s), short(want))
	}
}

// The examples of P1403.
func TestExamples(t *testing.T) {
	m := open(t, disk.New())
	one := adding(api.File{Number: 1, Count: 1, Bytes: 5, First: "a", Last: "b"})
	done(t, "the first one", m.Commit(one))
	if n, e := m.State().Next, m.Commit(one); n != 2 || e != api.ErrThere {
		t.Errorf("Next %d, then %d", n, e)
	}
	done(t, "a floor", m.Commit(api.Edit{Floor: api.Vec{1, 2}}))
	if e := m.Commit(api.Edit{Floor: api.Vec{0, 9}}); e != api.ErrOrder {
		t.Errorf("a floor beside: %d", e)
	}
}

// P1402
func TestOpenRefuses(t *testing.T) {
	off := disk.New()
	off.Crash(nil, 0)
	for _, c := range []struct {
		what string
		d    *disk.Disk
		dir  string
		e    api.Errno
	}{
		{"no disk", nil, "a", api.ErrArg},
		{"no name", disk.New(), "", api.ErrArg},
		{"a wrong name", disk.New(), "A", api.ErrArg},
		{"a wrong name behind a right one", disk.New(), "a b", api.ErrArg},
		{"a long name", disk.New(), letters(31), api.ErrArg},
		{"no power", off, "a", api.ErrOff},
		{"a zero disk", &disk.Disk{}, "a", api.ErrOff},
		{"no power and no name", off, "", api.ErrArg},
		{"no disk and no name", nil, "", api.ErrArg},
		{"30 bytes", disk.New(), letters(30), api.OK},
		{"all kinds of bytes", disk.New(), "az09.-_/", api.OK},
		{"a slash", disk.New(), "/", api.OK},
	} {
		m, e := manifest.Open(c.d, c.dir)
		if e != c.e || (m == nil) != (e != api.OK) {
			t.Errorf("%s: %v, %d, not %d", c.what, m != nil, e, c.e)
		}
	}
}

// P1402: at first.
func TestFirst(t *testing.T) {
	d := disk.New()
	d.Create("a/wal")
	d.Fuse(0, nil, 0)
	says(t, "at first", d, open(t, d), api.State{Next: 1})
	if d.Acts() != 1 || !d.On() {
		t.Errorf("Open of nothing does %d acts", d.Acts()-1)
	}
	says(t, "of no more than the disk's room", d, open(t, d), api.State{Next: 1})
}

// P1402: no other file is written, and none is looked at.
func TestOtherFiles(t *testing.T) {
	d := disk.New()
	others := []string{"a", "a/", "a/end", "a/mend", "a/w00000001", "am1", "b/m1", "a/m/1", "a/m01", "a/m-1", "a/m1x", "a/mm", "a/m0", "a/m.", "a/m12345678901234567"}
	for _, name := range others {
		done(t, name, d.Create(name), d.Append(name, "x"), d.Sync(name))
	}
	m := open(t, d)
	want := api.State{Next: 1}
	for i := range 50 {
		done(t, "Commit", m.Commit(noting("n", fmt.Sprint(i))))
		want.Notes = notes("n", fmt.Sprint(i))
		if i%7 == 0 {
			done(t, "Swap", m.Swap())
		}
		says(t, "among others", d, m, want)
	}
	for _, name := range others {
		if b, e := d.Read(name); b != "x" || e != api.OK {
			t.Errorf("%s: %q, %d", name, b, e)
		}
	}
	for _, name := range d.List("") {
		if !strings.HasPrefix(name, "a/m") && !slices.Contains(others, name) {
			t.Errorf("%s is written", name)
		}
	}
}

// P1402: two manifests on one disk.
func TestTwoNames(t *testing.T) {
	d := disk.New()
	a, e := manifest.Open(d, "a")
	b, f := manifest.Open(d, "a/m")
	done(t, "both", e, f)
	for i := range 40 {
		done(t, "both", a.Commit(noting("n", fmt.Sprint("a", i))), b.Commit(noting("n", fmt.Sprint("b", i))))
	}
	says(t, "the one", d, a, api.State{Next: 1, Notes: notes("n", "a39")})
	b, e = manifest.Open(d, "a/m")
	if e != api.OK || !same(b.State(), api.State{Next: 1, Notes: notes("n", "b39")}) {
		t.Errorf("the other one: %d, %s", e, short(b.State()))
	}
}

// P1402, P1403: whatever is said is there behind being opened anew, and so is that something had been there.
func TestCommit(t *testing.T) {
	d := disk.New()
	m := open(t, d)
	want := api.State{Next: 1}
	long := strings.Repeat("\x00\xff", 250)
	for i, e := range []api.Edit{
		{},
		adding(file(0, 1, "a", "b"), file(1, 2, "a", "b"), api.File{Level: 6, Number: 300, Count: api.MaxNumber, Bytes: api.MaxNumber, First: long, Last: long}),
		{Remove: []int{300}},
		{Floor: make(api.Vec, 8)},
		{Floor: api.Vec{0, 0, api.MaxTime - 1, 0, 0, 0, 0, 1}, Log: 7},
		{Log: maxLog},
		noting(letters(32), letters(maxText), "\x00", "\xff", "n", "1"),
		noting("n", "", "n", "2", "\x00", "", "nothing", ""),
		{Remove: []int{1, 2}, Add: []api.File{file(3, api.MaxNumber, "a", "b")}},
		{Remove: []int{api.MaxNumber}, Notes: notes("n", "", letters(32), "")},
		{},
	} {
		for range 2 {
			var err api.Errno
			if want, err = manifest.Apply(want, e); err != api.OK {
				t.Fatalf("edit %d: %d", i, err)
			}
			done(t, "Commit", m.Commit(e))
			says(t, fmt.Sprint("edit ", i), d, m, want)
			done(t, "Swap", m.Swap())
			says(t, fmt.Sprint("Swap behind edit ", i), d, m, want)
			d.Crash(nil, 0)
			d.Restore()
			says(t, fmt.Sprint("the power fails behind edit ", i), d, m, want)
			m = open(t, d)
			e = api.Edit{}
		}
	}
	if s := m.State(); s.Next != api.MaxNumber+1 || len(s.Files) != 0 || len(s.Notes) != 0 || s.Log != maxLog {
		t.Errorf("at the end: %s", short(s))
	}
}

// P1403: what is refused changes nothing, on the disk neither.
func TestCommitRefuses(t *testing.T) {
	d := disk.New()
	m := open(t, d)
	done(t, "Commit", m.Commit(api.Edit{Add: []api.File{file(1, 1, "a", "b")}, Log: 5, Floor: api.Vec{3}, Notes: notes("n", "1")}))
	want, acts := m.State(), d.Acts()
	for _, c := range []struct {
		e   api.Edit
		err api.Errno
	}{
		{adding(file(1, 0, "a", "b")), api.ErrArg},
		{api.Edit{Remove: []int{2}}, api.ErrNone},
		{adding(file(1, 1, "c", "d")), api.ErrThere},
		{adding(file(1, 2, "b", "d")), api.ErrOrder},
		{api.Edit{Log: 4}, api.ErrOrder},
		{api.Edit{Floor: api.Vec{2}, Log: 6}, api.ErrOrder},
		{noting("a", letters(maxText), "b", letters(maxText), "c", letters(maxText)), api.ErrLong},
	} {
		if e := m.Commit(c.e); e != c.err || m.Stuck() || d.Acts() != acts {
			t.Errorf("%s: %d, not %d", short(c.e), e, c.err)
		}
		says(t, short(c.e), d, m, want)
	}
	done(t, "Commit", m.Commit(adding(file(1, 2, "c", "d"))))
}

// P1403: the most that a manifest may say, which is laid down, and what takes many notes away.
func TestMuch(t *testing.T) {
	d := disk.New()
	m := open(t, d)
	end := func(i int, tail byte) string { return fmt.Sprintf("%04d", i) + strings.Repeat(string(tail), 496) }
	want := api.State{Next: api.MaxTables + 1}
	for i := 0; i < api.MaxTables; i += maxAdd {
		var e api.Edit
		for k := i; k < i+maxAdd; k++ {
			e.Add = append(e.Add, api.File{Level: 1, Number: k + 1, Count: api.MaxNumber, Bytes: api.MaxNumber, First: end(k, 1), Last: end(k, 2)})
		}
		want.Files = append(want.Files, e.Add...)
		done(t, "files", m.Commit(e))
	}
	for i := range api.MaxNotes {
		n := api.Pair2{Name: fmt.Sprintf("%032d", i), Text: letters(1000)}
		want.Notes = append(want.Notes, n)
		done(t, "notes", m.Commit(api.Edit{Notes: []api.Pair2{n}}))
	}
	says(t, "much", d, m, want)
	done(t, "Swap", m.Swap())
	says(t, "much, laid anew", d, m, want)
	var e api.Edit
	for i := range 1 << 15 { // more names than a file of the disk has room for
		e.Notes = append(e.Notes, api.Pair2{Name: fmt.Sprintf("nothing%025d", i)}, api.Pair2{Name: letters(32)})
	}
	for i := range want.Files {
		e.Remove = append(e.Remove, i+1)
	}
	want.Files = nil
	done(t, "what is not there is taken away", m.Commit(e))
	says(t, "less", d, m, want)
}

// P1403
func TestStuck(t *testing.T) {
	for _, c := range []struct {
		what string
		call func(m *manifest.Manifest) api.Errno
	}{
		{"Commit", func(m *manifest.Manifest) api.Errno { return m.Commit(noting("n", "2")) }},
		{"Commit of nothing", func(m *manifest.Manifest) api.Errno { return m.Commit(api.Edit{}) }},
		{"Swap", func(m *manifest.Manifest) api.Errno { return m.Swap() }},
	} {
		d := disk.New()
		m := open(t, d)
		done(t, "Commit", m.Commit(noting("n", "1")))
		want := m.State()
		d.Crash(nil, 0)
		if e := m.Commit(noting("", "")); e != api.ErrArg || m.Stuck() {
			t.Errorf("what no edit is, without power: %d", e)
		}
		if e := c.call(m); e != api.ErrOff || !m.Stuck() || !same(m.State(), want) {
			t.Errorf("%s: %d, %v, %s", c.what, e, m.Stuck(), short(m.State()))
		}
		d.Restore()
		if e := m.Commit(noting("", "")); e != api.ErrOpen {
			t.Errorf("what no edit is, stuck: %d", e)
		}
		acts := d.Acts()
		if e, f := m.Commit(noting("n", "3")), m.Swap(); e != api.ErrOpen || f != api.ErrOpen || !m.Stuck() || d.Acts() != acts {
			t.Errorf("stuck: %d, %d", e, f)
		}
		says(t, c.what, d, m, want)
		m = open(t, d)
		done(t, "opened anew", m.Commit(noting("n", "3")), m.Swap())
	}
}

// P1403: a power that failed and came again between two calls leaves nothing stuck.
func TestNotStuck(t *testing.T) {
	d := disk.New()
	m := open(t, d)
	for i := range 40 {
		done(t, "Commit", m.Commit(noting("n", fmt.Sprint(i))))
		d.Crash(nil, 0)
		d.Restore()
	}
	says(t, "behind all that", d, m, api.State{Next: 1, Notes: notes("n", "39")})
}

// P1403
func TestNoRoom(t *testing.T) {
	for room := range 400 {
		for pages := range 40 { // so that all is laid down anew, too
			if pages > 1 && pages < 14 && room%9 != 0 {
				continue
			}
			d := disk.New()
			m := open(t, d)
			for i := range pages {
				done(t, "Commit", m.Commit(noting("n", fmt.Sprint(i))))
			}
			want := m.State()
			d.Quota(d.Used() + room)
			files := d.List("")
			text := letters(100)
			switch e := m.Commit(noting("o", text)); e {
			case api.OK:
				want.Notes = append(want.Notes, notes("o", text)...)
			case api.ErrFull:
				if room == 399 || !slices.Equal(d.List(""), files) {
					t.Fatalf("no room with %d: %q", room, d.List(""))
				}
			default:
				t.Fatal(e)
			}
			says(t, "Commit", d, m, want)
			if e := m.Swap(); e != api.OK && e != api.ErrFull || m.Stuck() {
				t.Fatal(e)
			}
			says(t, "Swap", d, m, want)
			d.Quota(-1)
			done(t, "with room again", m.Swap(), m.Commit(api.Edit{}))
			says(t, "with room again", d, m, want)
		}
	}
}

// P1403: a disk that has as many files as it may have.
func TestNoFiles(t *testing.T) {
	d := disk.New()
	m := open(t, d)
	done(t, "Commit", m.Commit(noting("n", "1")))
	for i := len(d.List("")); i < api.MaxFiles; i++ {
		done(t, "Create", d.Create(fmt.Sprint("b", i)))
	}
	if e, f := m.Commit(noting("n", "2")), m.Swap(); e != api.ErrFull || f != api.ErrFull || m.Stuck() {
		t.Errorf("%d, %d", e, f)
	}
	says(t, "no files", d, m, api.State{Next: 1, Notes: notes("n", "1")})
	d.Remove("b1")
	done(t, "one file", m.Commit(noting("n", "2")))
	says(t, "one file", d, m, api.State{Next: 1, Notes: notes("n", "2")})
}

// P1403: however often it is opened and committed to.
func TestFewFiles(t *testing.T) {
	for each := 1; each < 40; each++ {
		d := disk.New()
		m := open(t, d)
		for i := range 200 {
			if i%each == 0 {
				m = open(t, d)
			}
			done(t, "Commit", m.Commit(noting("n", fmt.Sprint(i))))
			if n := len(d.List("")); n > most {
				t.Fatalf("%d files", n)
			}
		}
		if n := d.Used(); n > 1000 {
			t.Errorf("%d bytes of one note", n)
		}
	}
}

// P1403: wherever the power fails, too.
func TestFewFilesWithoutPower(t *testing.T) {
	for n := range 200 {
		d := disk.New()
		m := open(t, d)
		d.Fuse(n, []int{n}, 1)
		for i := 0; m.Commit(noting("n", fmt.Sprint(i))) == api.OK; i++ {
		}
		d.Restore()
		m = open(t, d)
		for i := range 40 {
			if n := len(d.List("")); n > most {
				t.Fatalf("%d files", n)
			}
			d.Fuse(3+i, nil, 0)
			if m.Commit(noting("m", fmt.Sprint(i))) != api.OK {
				d.Restore()
				m = open(t, d)
			}
		}
	}
}

// P1403: Swap leaves no more than the state needs.
func TestSwap(t *testing.T) {
	d := disk.New()
	m := open(t, d)
	for i := range 10 {
		done(t, "Commit", m.Commit(noting("n", letters(10000+i))))
	}
	done(t, "Commit", m.Commit(noting("n", "1")))
	before := d.Used()
	done(t, "Swap", m.Swap(), m.Swap(), m.Swap())
	if before < 100000 || d.Used() > 100 || len(d.List("")) != 1 {
		t.Errorf("%d bytes, then %d in %q", before, d.Used(), d.List(""))
	}
	says(t, "Swap", d, m, api.State{Next: 1, Notes: notes("n", "1")})
	empty := disk.New()
	m = open(t, empty)
	done(t, "Swap of nothing", m.Swap())
	says(t, "Swap of nothing", empty, m, api.State{Next: 1})
}

// P1404
func TestNothing(t *testing.T) {
	var none *manifest.Manifest
	for _, m := range []*manifest.Manifest{none, {}} {
		for range 2 {
			if e, f := m.Commit(api.Edit{}), m.Swap(); e != api.ErrArg || f != api.ErrArg {
				t.Errorf("%d, %d", e, f)
			}
			if e := m.Commit(noting("", "")); e != api.ErrArg {
				t.Errorf("%d", e)
			}
			if !same(m.State(), api.State{}) || m.Stuck() {
				t.Errorf("%s, %v", short(m.State()), m.Stuck())
			}
		}
	}
}

// P1404: what is told is new memory, and what is handed in is neither changed nor kept.
func TestMemory(t *testing.T) {
	d := disk.New()
	m := open(t, d)
	done(t, "Commit", m.Commit(api.Edit{}))
	e := api.Edit{Add: []api.File{file(0, 1, "a", "b")}, Floor: api.Vec{1, 2}, Notes: notes("n", "1", "m", "2", "n", "3")}
	e.Notes = e.Notes[:2]
	before := copiedEdit(e)
	done(t, "Commit", m.Commit(e))
	if !sameEdit(e, before) || e.Notes[:3][2].Text != "3" {
		t.Errorf("the edit is changed to %s", short(e))
	}
	want := api.State{Files: []api.File{file(0, 1, "a", "b")}, Next: 2, Floor: api.Vec{1, 2}, Notes: notes("m", "2", "n", "1")}
	e.Add[0].Level, e.Floor[0], e.Notes[0].Text = 3, 9, "9"
	s := m.State()
	s.Files[0].Level, s.Floor[0], s.Notes[0].Text = 3, 9, "9"
	says(t, "written to", d, m, want)
	done(t, "Swap", m.Swap())
	says(t, "laid anew", d, m, want)
	s, u := m.State(), m.State()
	s.Files[0].Level, s.Floor[0], s.Notes[0].Text = 3, 9, "9"
	if !same(u, want) {
		t.Errorf("two answers share memory: %s", short(u))
	}
}
