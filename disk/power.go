package disk

import (
	"slices"

	"bedrock/api"
)

// fuse lets the power fail at an act.
type fuse struct {
	left int // how many acts are done ahead of that
	cuts []int
	flip int
}

// Crash takes the power away.
func (d *Disk) Crash(cuts []int, flip int) {
	if !d.On() {
		return
	}
	d.on = false
	for i, name := range d.names("") {
		keep := 0
		if len(cuts) > 0 {
			keep = cuts[i%len(cuts)]
		}
		d.used -= d.files[name].tear(keep, flip)
	}
}

// tear cuts what is not synced, and tells how many bytes are gone.
func (f *file) tear(keep, flip int) int {
	loose := len(f.data) - f.synced
	kept := min(max(keep, 0), loose)
	f.data = f.data[:f.synced+kept]
	f.synced = len(f.data)
	if kept > 0 && flip >= 1 && flip <= 255 {
		f.data[len(f.data)-1] ^= byte(flip)
	}
	return loose - kept
}

// Restore brings the power back.
func (d *Disk) Restore() {
	if d.made() {
		d.on = true
	}
}

// On tells whether the power is on.
func (d *Disk) On() bool { return d != nil && d.on }

// Fuse lets the power fail behind so many acts.
func (d *Disk) Fuse(n int, cuts []int, flip int) {
	if !d.made() {
		return
	}
	d.fuse = nil
	if n >= 0 {
		d.fuse = &fuse{left: n, cuts: slices.Clone(cuts), flip: flip}
	}
}

// act counts an act that is about to be done, or gives up if the power fails at it.
func (d *Disk) act() {
	if f := d.fuse; f != nil {
		if f.left == 0 {
			d.fuse = nil
			d.Crash(f.cuts, f.flip)
			panic(api.ErrOff)
		}
		f.left--
	}
	d.acts++
}
