package manifest_test

import (
	"fmt"
	"math/rand"
	"strings"
	"testing"

	"bedrock/api"
	"bedrock/disk"
	"bedrock/manifest"
)

// calls are many, so that all is laid down anew more than once.
func calls(m *manifest.Manifest, done func(e api.Errno) bool) {
	for i := range 40 {
		e := noting("n", fmt.Sprint(i), fmt.Sprint("k", i%3), letters(i))
		if i%5 == 0 {
			e.Add = []api.File{file(0, i+1, "a", "b")}
		}
		if i%10 == 6 {
			e.Remove = []int{i - 5}
		}
		if !done(m.Commit(e)) || i%11 == 3 && !done(m.Swap()) {
			return
		}
	}
}

// states are those behind each of the calls, the first one ahead of all.
func states(t *testing.T) []api.State {
	t.Helper()
	m := open(t, disk.New())
	l := []api.State{m.State()}
	calls(m, func(e api.Errno) bool {
		done(t, "a call", e)
		l = append(l, m.State())
		return true
	})
	return l
}

// P1403, P1405: the power fails at each act, and again in what comes behind.
func TestPowerAtEachAct(t *testing.T) {
	want := states(t)
	for n := 0; ; n++ {
		for _, cut := range []int{0, 5, 1 << 20} {
			d := disk.New()
			m := open(t, d)
			d.Fuse(n, []int{cut}, cut&1)
			ok := 0
			calls(m, func(e api.Errno) bool {
				if e == api.OK {
					ok++
				} else if e != api.ErrOff || !m.Stuck() || !same(m.State(), want[ok]) {
					t.Fatalf("act %d: %d, %v, %s", n, e, m.Stuck(), short(m.State()))
				}
				return e == api.OK
			})
			if ok == len(want)-1 {
				if n < 150 {
					t.Errorf("%d acts", n)
				}
				return
			}
			d.Restore()
			again := open(t, d)
			s := again.State()
			if !same(s, want[ok]) && !same(s, want[ok+1]) {
				t.Fatalf("act %d: read %s, not %s, nor %s", n, short(s), short(want[ok]), short(want[ok+1]))
			}
			d.Fuse(n%5, []int{cut}, 1)
			if e := again.Commit(noting("more", "1")); e == api.ErrOff {
				d.Restore()
				if got := open(t, d).State(); !same(got, s) && len(got.Notes) != len(s.Notes)+1 {
					t.Fatalf("act %d, and again: read %s, not %s", n, short(got), short(s))
				}
			}
			if len(d.List("")) > most {
				t.Fatalf("%d files", len(d.List("")))
			}
		}
	}
}

// P1405: lives whose power fails at any time, with any cuts and any room.
func TestManyLives(t *testing.T) {
	for seed := range int64(150) {
		r := rand.New(rand.NewSource(seed))
		d := disk.New()
		m := open(t, d)
		sure := m.State() // what is there
		var perhaps *api.State
		for range 300 {
			if !d.On() {
				d.Restore()
				d.Fuse(r.Intn(40)-3, []int{r.Intn(200) - 20}, r.Intn(400))
			}
			if m == nil || r.Intn(10) == 0 {
				m = open(t, d)
				if s := m.State(); !same(s, sure) {
					if perhaps == nil || !same(s, *perhaps) {
						t.Fatalf("seed %d: read %s, not %s", seed, short(s), short(sure))
					}
					sure = s
				}
				perhaps = nil
			}
			d.Quota(-1)
			if r.Intn(4) == 0 {
				d.Quota(d.Used() + r.Intn(300))
			}
			e, next := m.Swap, sure
			if r.Intn(8) > 0 {
				edit := random(r, sure)
				s, err := manifest.Apply(sure, edit)
				if err != api.OK {
					continue
				}
				e, next = func() api.Errno { return m.Commit(edit) }, s
			}
			switch err := e(); {
			case err == api.OK:
				sure = next
			case err == api.ErrOff && m.Stuck():
				perhaps, m = &next, nil
			case err != api.ErrFull || d.On() && m.Stuck():
				t.Fatalf("seed %d: %d", seed, err)
			}
			if m != nil && !same(m.State(), sure) {
				t.Fatalf("seed %d: %s, not %s", seed, short(m.State()), short(sure))
			}
			if n := len(d.Twin().List("")); n > most {
				t.Fatalf("seed %d: %d files", seed, n)
			}
		}
	}
}

// put makes a disk with what another one has, of which one file has other bytes.
func put(t *testing.T, d *disk.Disk, name, data string) *disk.Disk {
	t.Helper()
	x := disk.New()
	for _, n := range d.List("") {
		b, _ := d.Read(n)
		if n == name {
			b = data
		}
		done(t, n, x.Create(n), x.Append(n, b), x.Sync(n))
	}
	return x
}

// corrupt holds an Open against ErrCorrupt, and that it leaves all as it was.
func corrupt(t *testing.T, what string, d *disk.Disk) {
	t.Helper()
	acts := d.Acts()
	if m, e := manifest.Open(d, "a"); e != api.ErrCorrupt || m != nil || d.Acts() != acts {
		t.Errorf("%s: %v, %d", what, m != nil, e)
	}
}

// P1402: each byte of each file that is changed, any that is missing and any that is too much.
func TestChangedBytes(t *testing.T) {
	for _, pages := range []int{1, 2, 9, 16, 17, 20} {
		d := disk.New()
		m := open(t, d)
		for i := range pages {
			done(t, "Commit", m.Commit(api.Edit{Add: []api.File{file(0, i+1, "a", "b")}, Log: i + 1, Floor: api.Vec{i}, Notes: notes("n", fmt.Sprint(i))}))
		}
		for _, name := range d.List("") {
			b, _ := d.Read(name)
			for i := range len(b) {
				for _, flip := range []byte{1, 128, 255, byte(1 + i%255)} {
					c := []byte(b)
					c[i] ^= flip
					corrupt(t, fmt.Sprintf("%s: byte %d", name, i), put(t, d, name, string(c)))
				}
				corrupt(t, fmt.Sprintf("%s: no more than %d bytes", name, i), put(t, d, name, b[:i]))
			}
			corrupt(t, name+" and a byte more", put(t, d, name, b+"\x00"))
			corrupt(t, name+" twice", put(t, d, name, b+b))
		}
	}
}

// P1402: files that are missing, or stand in the place of others.
func TestMissingFiles(t *testing.T) {
	d := disk.New()
	m := open(t, d)
	for i := range 9 {
		done(t, "Commit", m.Commit(noting("n", fmt.Sprint(i))))
	}
	l := d.List("")
	if len(l) < 3 {
		t.Fatalf("%q", l)
	}
	for i, name := range l {
		x := d.Twin()
		done(t, "Remove", x.Remove(name))
		if i < len(l)-1 { // without the last one it is as it was ahead of that
			corrupt(t, "without "+name, x)
		}
		for _, other := range l {
			if other != name {
				b, _ := d.Read(other)
				corrupt(t, other+" as "+name, put(t, d, name, b))
			}
		}
	}
	x := d.Twin()
	done(t, "Create", x.Create("a/m99"))
	corrupt(t, "a file without bytes", x)
	x = d.Twin()
	done(t, "Rename", x.Rename(l[0], "a/m"+strings.Repeat("9", 16)))
	corrupt(t, "a great number", x)
	x = d.Twin()
	done(t, "Swap", open(t, x).Swap(), x.Create("a/m1"))
	corrupt(t, "one far ahead of all", x)
}

// What a failing power left behind all was laid down anew is not looked at.
func TestLeftFiles(t *testing.T) {
	for n := range 6 {
		d := disk.New()
		m := open(t, d)
		for i := range 9 {
			done(t, "Commit", m.Commit(noting("n", fmt.Sprint(i))))
		}
		want := m.State()
		d.Fuse(4+n, nil, 0) // all is laid anew, and some of the files are removed
		if e := m.Swap(); e != api.ErrOff {
			t.Fatal(e)
		}
		d.Restore()
		left := d.List("")
		if len(left) != 10-n {
			t.Fatalf("%q", left)
		}
		for _, name := range left {
			if name != "a/m10" {
				says(t, "what is left", put(t, d, name, "junk"), open(t, d), want)
			}
		}
		m = open(t, d)
		done(t, "Commit", m.Commit(api.Edit{}))
		if l := d.List(""); len(l) != 2 {
			t.Errorf("%q", l)
		}
		says(t, "cleared", d, m, want)
	}
}
