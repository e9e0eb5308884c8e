package disk

import (
	"bytes"
	"slices"
)

// Clone: P4.7.
func (d *Disk) Clone() *Disk {
	if d == nil {
		return nil
	}
	c := *d
	twins := map[int]*file{}
	c.files = nil
	for _, f := range d.files {
		twins[f.number] = &file{number: f.number, data: slices.Clone(f.data), sure: f.sure}
		c.files = append(c.files, twins[f.number])
	}
	twin := func(f *file) *file {
		if f == nil {
			return nil
		}
		return twins[f.number]
	}
	c.now, c.sure = copied(&d.now, twin), copied(&d.sure, twin)
	c.changes = nil
	for _, old := range d.changes {
		c.changes = append(c.changes, copiedChange(old, twin))
	}
	return &c
}

// copied is a directory that goes on alone, with another file for each.
func copied(dir *directory, other func(f *file) *file) directory {
	var c directory
	for name, f := range dir.Each() {
		c.Put(name, other(f))
	}
	return c
}

// copiedChange is likewise a change with other files.
func copiedChange(old change, other func(f *file) *file) change {
	var c change
	for _, p := range old {
		c = append(c, pair{p.name, other(p.file)})
	}
	return c
}

// Same: P4.7.
func Same(a, b *Disk) bool {
	if a == nil || b == nil {
		return a == b
	}
	if a.now.Len() != b.now.Len() {
		return false
	}
	for name, f := range a.now.Each() {
		g, there := b.now.Get(name)
		if !there || !bytes.Equal(f.data, g.data) {
			return false
		}
	}
	return true
}
