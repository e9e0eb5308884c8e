package wal

import (
	"brazier/api"
	"brazier/disk"
)

// What stands behind a file's name while it is written anew.
const spare = ".tmp"

// file is a file of a disk, with what went wrong there: behind that nothing is done to it any more.
type file struct {
	disk *disk.Disk
	name string
	bad  api.Errno
}

// do takes steps one behind the other till one goes wrong, and keeps what that was.
func (f *file) do(steps ...func() api.Errno) api.Errno {
	for _, step := range steps {
		if f.bad == api.OK {
			f.bad = step()
		}
	}
	return f.bad
}

// anew lays all of the frames down in the file's place, or none of them.
func (f *file) anew(frames [][]byte) api.Errno {
	other := f.name + spare
	switch err := write(f.disk, other, frames); err {
	case api.OK:
		return f.do(func() api.Errno { return f.disk.Rename(other, f.name) }, f.disk.SyncDir)
	case api.ErrFull: // all is as it was, but for what was written of the other file
		f.do(func() api.Errno { return f.disk.Remove(other) })
		return err
	default:
		f.bad = err
		return err
	}
}

// write makes a file of these frames whose bytes are sure; its name isn't yet.
func write(d *disk.Disk, name string, frames [][]byte) api.Errno {
	if err := d.Create(name); err != api.OK {
		return err
	}
	for _, frame := range frames {
		if err := d.Append(name, frame); err != api.OK {
			return err
		}
	}
	return d.Sync(name)
}
