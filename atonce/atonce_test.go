package atonce_test

import (
	"slices"
	"testing"

	"bedrock/api"
	"bedrock/atonce"
	"bedrock/disk"
	"bedrock/fault"
)

// made makes a disk with a file, and with what a failing power left under the other name.
func made(t *testing.T, left bool) *disk.Disk {
	t.Helper()
	d := disk.New()
	if e := atonce.Write(d, "by", "a", "old"); e != api.OK {
		t.Fatal(e)
	}
	if left {
		d.Create("by")
		d.Append("by", "left")
	}
	return d
}

func read(d *disk.Disk, name string) string {
	b, e := d.Read(name)
	if e != api.OK {
		return "none"
	}
	return b
}

func TestWrite(t *testing.T) {
	for _, left := range []bool{false, true} {
		d := made(t, left)
		if e := atonce.Write(d, "by", "a", "new"); e != api.OK || read(d, "a") != "new" || len(d.List("")) != 1 {
			t.Errorf("%d, %q, %q", e, read(d, "a"), d.List(""))
		}
		d.Crash(nil, 0)
		d.Restore()
		if read(d, "a") != "new" {
			t.Errorf("behind a failure: %q", read(d, "a"))
		}
	}
}

// Wherever the power fails, the old file is there or the new one.
func TestPower(t *testing.T) {
	for _, left := range []bool{false, true} {
		acts := 4
		if left {
			acts++
		}
		for n := range acts + 1 {
			for _, cut := range []int{0, 1, 9} {
				d := made(t, left)
				d.Fuse(n, []int{cut}, 1)
				e := atonce.Write(d, "by", "a", "new")
				want, told := "old", api.ErrOff
				if n == acts {
					want, told = "new", api.OK
				}
				d.Restore()
				if e != told || read(d, "a") != want {
					t.Errorf("the power fails at act %d: %d, %q", n, e, read(d, "a"))
				}
			}
		}
	}
}

// Where there is no room nothing is left of it.
func TestRoom(t *testing.T) {
	for _, left := range []bool{false, true} {
		for room := range 4 {
			d := made(t, left)
			d.Quota(3 + room)
			e := atonce.Write(d, "by", "a", "new")
			want, told := "old", api.ErrFull
			if room == 3 {
				want, told = "new", api.OK
			}
			if e != told || read(d, "a") != want || !slices.Equal(d.List(""), []string{"a"}) {
				t.Errorf("room for %d: %d, %q, %q", room, e, read(d, "a"), d.List(""))
			}
		}
	}
	d := made(t, false)
	d.Quota(3)
	d.Fuse(1, nil, 0)
	if e := atonce.Write(d, "by", "a", "new"); e != api.ErrOff {
		t.Errorf("the power fails where nothing is to be left: %d", e)
	}
}

func TestRemove(t *testing.T) {
	d := made(t, true)
	for range 2 {
		if e := fault.Tried(func() { atonce.Remove(d, "by") }); e != api.OK || read(d, "by") != "none" {
			t.Errorf("%d, %q", e, read(d, "by"))
		}
	}
	d.Fuse(0, nil, 0)
	if e := fault.Tried(func() { atonce.Remove(d, "a") }); e != api.ErrOff {
		t.Errorf("without power: %d", e)
	}
	if e := atonce.Write(nil, "by", "a", ""); e != api.ErrOff {
		t.Errorf("without a disk: %d", e)
	}
}
