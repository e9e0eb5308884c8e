package disk

import "brazier/api"

// pair says of a name which file it is; nil: none.
type pair struct {
	name string
	file *file
}

// change is what one call turns in a directory: all of its pairs or none.
type change []pair

// lay turns dir by a change.
func lay(dir *directory, c change) {
	for _, p := range c {
		if p.file == nil {
			dir.Drop(p.name)
		} else {
			dir.Put(p.name, p.file)
		}
	}
}

// turnNames makes one change of the directory, which isn't sure.
func (d *Disk) turnNames(c ...pair) {
	lay(&d.now, c)
	d.changes = append(d.changes, c)
}

// power counts a call, and tells whether the power lasts for it.
func (d *Disk) power() bool {
	if d.Off() {
		return false
	}
	d.calls++
	if d.ahead == 0 {
		d.off = true
		return false
	}
	if d.ahead > 0 {
		d.ahead--
	}
	return true
}

// begin begins a call with these names.
func (d *Disk) begin(names ...string) api.Errno {
	if !d.power() {
		return api.ErrDown
	}
	for _, name := range names {
		if !MayName(name) {
			return api.ErrArg
		}
	}
	return api.OK
}

// beginWith begins a call with these names, with the file of the first.
func (d *Disk) beginWith(names ...string) (*file, api.Errno) {
	if err := d.begin(names...); err != api.OK {
		return nil, err
	}
	f, there := d.now.Get(names[0])
	if !there {
		return nil, api.ErrNone
	}
	return f, api.OK
}

// Create: P4.2.
func (d *Disk) Create(name string) api.Errno {
	if err := d.begin(name); err != api.OK {
		return err
	}
	if _, there := d.now.Get(name); !there && d.now.Len() >= api.MaxFiles {
		return api.ErrBig
	}
	f := &file{number: d.made}
	d.made++
	d.files = append(d.files, f)
	d.turnNames(pair{name, f})
	return api.OK
}

// Append: P4.2.
func (d *Disk) Append(name string, b []byte) api.Errno {
	f, err := d.beginWith(name)
	if err != api.OK {
		return err
	}
	if len(f.data)+len(b) > api.MaxFile {
		return api.ErrBig
	}
	if d.Used()+len(b) > d.quota {
		d.full = true
		return api.ErrFull
	}
	f.data = append(f.data, b...)
	return api.OK
}

// Sync: P4.2.
func (d *Disk) Sync(name string) api.Errno {
	f, err := d.beginWith(name)
	if err != api.OK {
		return err
	}
	f.sure = len(f.data)
	return api.OK
}

// SyncDir: P4.2.
func (d *Disk) SyncDir() api.Errno {
	if err := d.begin(); err != api.OK {
		return err
	}
	d.settle(len(d.changes))
	return api.OK
}

// Rename: P4.2. The old name goes first: where both are one, the file has it behind the change.
func (d *Disk) Rename(from, to string) api.Errno {
	f, err := d.beginWith(from, to)
	if err != api.OK {
		return err
	}
	d.turnNames(pair{from, nil}, pair{to, f})
	return api.OK
}

// Remove: P4.2.
func (d *Disk) Remove(name string) api.Errno {
	if _, err := d.beginWith(name); err != api.OK {
		return err
	}
	d.turnNames(pair{name, nil})
	return api.OK
}
