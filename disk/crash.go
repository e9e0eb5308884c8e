package disk

import (
	"slices"

	"brazier/api"
)

// Crash: P4.6.
func (d *Disk) Crash(l api.Loss) {
	if d == nil {
		return
	}
	d.settle(min(max(l.Dir, 0), len(d.changes)))
	for i, f := range d.files {
		f.lose(kept(l.Keep, f.number))
		f.number = i
	}
	d.made = len(d.files)
	d.full, d.off, d.ahead = false, false, -1
}

// settle makes just the first changes sure, and the directory as it is sure.
func (d *Disk) settle(first int) {
	for _, c := range d.changes[:first] {
		lay(&d.sure, c)
	}
	d.changes = nil
	d.now = copied(&d.sure, func(f *file) *file { return f })
	d.forget()
}

// forget lets go of the files without a name. Where all changes are settled, none of them has one again.
func (d *Disk) forget() {
	named := map[int]struct{}{}
	for _, f := range d.now.Each() {
		named[f.number] = struct{}{}
	}
	d.files = slices.DeleteFunc(d.files, func(f *file) bool {
		_, there := named[f.number]
		return !there
	})
}

// kept is how many bytes, beside those that are sure, a loss leaves the file of this number.
func kept(keep []int, number int) int {
	if len(keep) == 0 {
		return 0
	}
	return keep[number%len(keep)]
}

// lose leaves the file its sure bytes and so many others, if it has them; all these are sure.
func (f *file) lose(others int) {
	f.sure += min(max(others, 0), len(f.data)-f.sure)
	f.data = slices.Clone(f.data[:f.sure])
}

// Turn: P4.7.
func (d *Disk) Turn(name string, at int, mask byte) bool {
	f, there := d.names().Get(name)
	if !there || at < 0 || at >= len(f.data) {
		return false
	}
	f.data[at] ^= mask
	return true
}
