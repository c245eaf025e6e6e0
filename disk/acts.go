package disk

import (
	"bedrock/api"
	"bedrock/fault"
)

// Create makes a file.
func (d *Disk) Create(name string) api.Errno {
	return fault.Tried(func() {
		d.ask(name)
		if d.files[name] != nil {
			panic(api.ErrThere)
		}
		if len(d.files) >= api.MaxFiles {
			panic(api.ErrFull)
		}
		d.act()
		d.files[name] = &file{}
	})
}

// Append puts bytes at a file's end.
func (d *Disk) Append(name, data string) api.Errno {
	return fault.Tried(func() {
		d.ask(name)
		f := d.file(name)
		if len(data) > maxFile-len(f.data) {
			panic(api.ErrLong)
		}
		// The files may have more than the quota, if it came behind them.
		if d.quota >= 0 && data != "" && len(data) > d.quota-d.used {
			panic(api.ErrFull)
		}
		d.act()
		f.data = append(f.data, data...)
		d.used += len(data)
	})
}

// Sync makes sure of a file's bytes.
func (d *Disk) Sync(name string) api.Errno {
	return fault.Tried(func() {
		d.ask(name)
		f := d.file(name)
		d.act()
		f.synced = len(f.data)
	})
}

// Rename gives a file another name.
func (d *Disk) Rename(from, to string) api.Errno {
	return fault.Tried(func() {
		d.ask(from, to)
		f := d.file(from)
		d.act()
		// Taken out first: where the names are the same, nothing else has the new one.
		delete(d.files, from)
		if old := d.files[to]; old != nil {
			d.used -= len(old.data)
		}
		d.files[to] = f
	})
}

// Remove takes a file away.
func (d *Disk) Remove(name string) api.Errno {
	return fault.Tried(func() {
		d.ask(name)
		f := d.file(name)
		d.act()
		delete(d.files, name)
		d.used -= len(f.data)
	})
}

// Read tells a file's bytes.
func (d *Disk) Read(name string) (string, api.Errno) {
	data := ""
	e := fault.Tried(func() {
		d.ask(name)
		data = string(d.file(name).data)
	})
	return data, e
}
