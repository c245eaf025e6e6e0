package manifest_test

import (
	"encoding/binary"
	"fmt"
	"hash/crc32"
	"math/rand"
	"slices"
	"strings"
	"testing"

	"bedrock/api"
	"bedrock/disk"
	"bedrock/manifest"
)

// summed tells bytes with their sum ahead of them.
func summed(b string) string {
	sum := crc32.Checksum([]byte(b), crc32.MakeTable(crc32.Castagnoli))
	return string(binary.BigEndian.AppendUint32(nil, sum)) + b
}

// laid makes a disk with pages of some bytes, numbered from 1 on.
func laid(t *testing.T, pages ...string) *disk.Disk {
	t.Helper()
	d := disk.New()
	for i, b := range pages {
		name := fmt.Sprint("a/m", i+1)
		done(t, name, d.Create(name), d.Append(name, summed(b)), d.Sync(name))
	}
	return d
}

// ahead is a page that says all: a file of level 1 and a note; Next is 9.
const ahead = "\x01\x09" + "\x00" + "\x01\x01\x01\x01\x05\x01a\x01b" + "\x03" + "\x07\x01\x00\x00\x00\x00\x00\x02" + "\x01\x01n\x011"

// How pages stand on the disk.
func TestForm(t *testing.T) {
	edit := "\x02\x00" + "\x01\x01" + "\x01\x00\x09\x02\x06\x01c\x02dd" + "\x04" + "\x00" + "\x01\x01n\x00"
	d := laid(t, ahead, edit)
	want := api.State{Files: []api.File{{Level: 0, Number: 9, Count: 2, Bytes: 6, First: "c", Last: "dd"}}, Next: 10, Log: 4, Floor: api.Vec{2}}
	says(t, "pages that are laid by hand", d, open(t, d), want)
	m := open(t, laid(t, ahead))
	done(t, "Commit", m.Commit(api.Edit{Remove: []int{1}, Add: want.Files, Log: 4, Notes: notes("x", "", "n", "2", "n", "")}))
	says(t, "the same edit", d, m, want)
	x := disk.New()
	m = open(t, x)
	done(t, "the same state", m.Commit(api.Edit{Add: []api.File{file(1, 1, "a", "b"), file(0, 8, "a", "b")}, Log: 3, Floor: api.Vec{2}, Notes: notes("n", "1")}), m.Commit(api.Edit{Remove: []int{8}}), m.Swap())
	if b, _ := x.Read("a/m3"); b != summed("\x03"+ahead[1:]) {
		t.Errorf("Swap lays %x", b)
	}
}

// P1402: pages whose sum is right, and that no manifest lays.
func TestWrongPages(t *testing.T) {
	behind := func(p string) []string { return []string{ahead, p} }
	for _, c := range []struct {
		what  string
		pages []string
		e     api.Errno
	}{
		{"all", []string{ahead}, api.OK},
		{"nothing behind all", behind("\x02\x00\x00\x00\x00\x00\x00"), api.OK},
		{"all behind all", behind("\x02" + ahead[1:]), api.OK},
		{"junk ahead of all", []string{"junk", "\x02" + ahead[1:]}, api.OK},
		{"no bytes", []string{""}, api.ErrCorrupt},
		{"another number", []string{"\x02" + ahead[1:]}, api.ErrCorrupt},
		{"an edit of nothing", []string{"\x01\x00\x00\x00\x00\x00\x00"}, api.ErrCorrupt},
		{"a byte behind all", []string{ahead + "\x00"}, api.ErrCorrupt},
		{"a byte behind an edit", behind("\x02\x00\x00\x00\x00\x00\x00\x00"), api.ErrCorrupt},
		{"less than an edit", behind("\x02\x00\x00\x00\x00\x00"), api.ErrCorrupt},
		{"Next that a file has", []string{"\x01\x01" + ahead[2:]}, api.ErrCorrupt},
		{"Next behind a file", []string{"\x01\x02" + ahead[2:]}, api.OK},
		{"the greatest Next", []string{"\x01\x80\x80\x80\x80\x08" + ahead[2:]}, api.OK},
		{"a greater Next", []string{"\x01\x81\x80\x80\x80\x08" + ahead[2:]}, api.ErrCorrupt},
		{"a number in more bytes", []string{"\x01\x89\x00" + ahead[2:]}, api.ErrCorrupt},
		{"many files", behind("\x02\x00\x00\xff\xff\xff\xff\xff\xff\xff\xff\x7f"), api.ErrCorrupt},
		{"many notes", behind("\x02\x00\x00\x00\x00\x00\xff\xff\xff\xff\xff\xff\xff\xff\x7f"), api.ErrCorrupt},
		{"many removed", behind("\x02\x00\xff\xff\xff\xff\xff\xff\xff\xff\x7f"), api.ErrCorrupt},
		{"removed: none", behind("\x02\x00\x01\x07\x00\x00\x00\x00"), api.ErrCorrupt},
		{"removed", behind("\x02\x00\x01\x01\x00\x00\x00\x00"), api.OK},
		{"added: too low", behind("\x02\x00\x00\x01\x00\x08\x01\x01\x01a\x01b\x00\x00\x00"), api.ErrCorrupt},
		{"added", behind("\x02\x00\x00\x01\x00\x09\x01\x01\x01a\x01b\x00\x00\x00"), api.OK},
		{"added: a key in common", behind("\x02\x00\x00\x01\x01\x09\x01\x01\x01b\x01c\x00\x00\x00"), api.ErrCorrupt},
		{"added: level 7", behind("\x02\x00\x00\x01\x07\x09\x01\x01\x01a\x01b\x00\x00\x00"), api.ErrCorrupt},
		{"log below", behind("\x02\x00\x00\x00\x02\x00\x00"), api.ErrCorrupt},
		{"log 2^32", behind("\x02\x00\x00\x00\x80\x80\x80\x80\x10\x00\x00"), api.ErrCorrupt},
		{"a floor below", behind("\x02\x00\x00\x00\x00\x07\x01\x00\x00\x00\x00\x00\x01\x00"), api.ErrCorrupt},
		{"a floor that ends too early", behind("\x02\x00\x00\x00\x00\x06\x01\x00\x00\x00\x00\x03\x00"), api.ErrCorrupt},
		{"a floor and a byte more", behind("\x02\x00\x00\x00\x00\x08\x01\x00\x00\x00\x00\x00\x03\x00\x00"), api.ErrCorrupt},
		{"a floor", behind("\x02\x00\x00\x00\x00\x07\x01\x00\x00\x00\x00\x00\x03\x00"), api.OK},
		{"no name", behind("\x02\x00\x00\x00\x00\x00\x01\x00\x01x"), api.ErrCorrupt},
		{"a note", behind("\x02\x00\x00\x00\x00\x00\x01\x01x\x01x"), api.OK},
		{"all, with something removed", []string{"\x01\x09\x01\x01" + ahead[3:]}, api.ErrCorrupt},
	} {
		d := laid(t, c.pages...)
		if c.e != api.OK {
			corrupt(t, c.what, d)
			continue
		}
		if s := open(t, d).State(); !manifestSays(s) {
			t.Errorf("%s: %s", c.what, short(s))
		}
	}
}

// P1402: any bytes whose sum fits.
func TestChangedPages(t *testing.T) {
	opened := 0
	for seed := range int64(20000) {
		r := rand.New(rand.NewSource(seed))
		pages := []string{ahead, "\x02\x00\x01\x01\x01\x00\x09\x02\x06\x01c\x02dd\x04\x00\x01\x01n\x00"}
		i := r.Intn(2)
		b := []byte(pages[i])
		for range 1 + r.Intn(2) {
			switch at := r.Intn(len(b)); r.Intn(4) {
			case 0:
				b[at] ^= 1 << r.Intn(8)
			case 1:
				b[at] = byte(int(b[at]) + r.Intn(3) - 1)
			case 2:
				b = slices.Insert(b, at, "\x00\x01\x02a\x80\xff"[r.Intn(6)])
			default:
				b = slices.Delete(b, at, min(at+1+r.Intn(3), len(b)))
			}
		}
		pages[i] = string(b)
		if opens(t, laid(t, pages...)) {
			opened++
		}
	}
	if opened < 1000 || opened > 15000 {
		t.Errorf("%d can be opened", opened)
	}
}

// opens tells whether Open takes what stands on a disk, and holds what it says against what may be said.
func opens(t *testing.T, d *disk.Disk) bool {
	t.Helper()
	m, e := manifest.Open(d, "a")
	if e == api.ErrCorrupt && m == nil {
		return false
	}
	if e != api.OK || !manifestSays(m.State()) {
		t.Errorf("Open: %d, %s", e, short(m.State()))
		return false
	}
	done(t, "Swap", m.Swap())
	says(t, "laid anew", d, m, m.State())
	return true
}

// P1402
func FuzzPages(f *testing.F) {
	f.Add(ahead, "\x02\x00\x01\x01\x01\x00\x09\x02\x06\x01c\x02dd\x04\x00\x01\x01n\x00")
	f.Fuzz(func(t *testing.T, a, b string) {
		opens(t, laid(t, a))
		opens(t, laid(t, ahead, a))
		opens(t, laid(t, a, b))
		d := laid(t, a)
		if name := "a/m2"; len(b) < 100 {
			done(t, name, d.Create(name), d.Append(name, strings.Clone(b)))
			opens(t, d)
		}
	})
}
