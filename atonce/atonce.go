// Package atonce writes files that are there whole and for good, or not at
// all, wherever the power fails.
package atonce

import (
	"bedrock/api"
	"bedrock/disk"
	"bedrock/fault"
)

// Write makes a file of some bytes, in the place of one that has its name. It
// is written under another name, by, where whatever stands there is lost, and
// takes its own one when nothing of it can be torn any more. Where there is no
// room nothing is left of it; what a failing power leaves of it stands there.
func Write(d *disk.Disk, by, name, data string) api.Errno {
	return fault.Tried(func() {
		Remove(d, by)
		fault.Must(d.Create(by))
		e := d.Append(by, data)
		if e == api.ErrFull {
			fault.Must(d.Remove(by))
		}
		fault.Must(e)
		fault.Must(d.Sync(by))
		fault.Must(d.Rename(by, name))
	})
}

// Remove removes a file that may be there, or gives up.
func Remove(d *disk.Disk, name string) {
	if e := d.Remove(name); e != api.ErrNone {
		fault.Must(e)
	}
}
