package disk

import (
	"bytes"
	"fmt"
	"maps"
	"math"
	"math/rand"
	"slices"
	"strings"
	"testing"

	"brazier/api"
)

// modelFile is a file of a model.
type modelFile struct {
	data string
	sure int
}

// model is a disk that lets go of nothing: each directory since the sure one is whole, and each file that was ever made stands at its number.
type model struct {
	files []modelFile
	dirs  []map[string]int // the sure one ahead, then one behind each change
	quota int
	stop  int
	calls int
	off   bool
	full  bool
}

func newModel(quota int) *model {
	return &model{dirs: []map[string]int{{}}, quota: max(0, quota), stop: -1}
}

func (m *model) clone() *model {
	c := *m
	c.files = slices.Clone(m.files)
	c.dirs = nil
	for _, dir := range m.dirs {
		c.dirs = append(c.dirs, maps.Clone(dir))
	}
	return &c
}

func (m *model) now() map[string]int { return m.dirs[len(m.dirs)-1] }

func (m *model) used() int {
	n := 0
	for _, at := range m.now() {
		n += len(m.files[at].data)
	}
	return n
}

// call is one of the six.
type call struct {
	kind     string
	name, to string
	data     string
}

func (c call) String() string { return fmt.Sprintf("%s(%q, %q, %q)", c.kind, c.name, c.to, c.data) }

// of makes the call on a disk.
func (c call) of(d *Disk) api.Errno {
	switch c.kind {
	case "Create":
		return d.Create(c.name)
	case "Append":
		return d.Append(c.name, []byte(c.data))
	case "Sync":
		return d.Sync(c.name)
	case "SyncDir":
		return d.SyncDir()
	case "Rename":
		return d.Rename(c.name, c.to)
	default:
		return d.Remove(c.name)
	}
}

// ofModel makes it on a model.
func (c call) ofModel(m *model) api.Errno {
	if m.off {
		return api.ErrDown
	}
	m.calls++
	if m.stop--; m.stop == -1 {
		m.off = true
		return api.ErrDown
	}
	m.stop = max(m.stop, -1)
	if c.kind != "SyncDir" && !plainName(c.name) || c.kind == "Rename" && !plainName(c.to) {
		return api.ErrArg
	}
	dir := maps.Clone(m.now())
	at, there := dir[c.name]
	switch c.kind {
	case "Create":
		if !there && len(dir) == 1024 {
			return api.ErrBig
		}
		dir[c.name] = len(m.files)
		m.files = append(m.files, modelFile{})
	case "SyncDir":
		m.dirs = []map[string]int{dir}
		return api.OK
	default:
		if !there {
			return api.ErrNone
		}
		return c.ofFile(m, dir, at)
	}
	m.dirs = append(m.dirs, dir)
	return api.OK
}

// ofFile makes the call on a model where the name is there.
func (c call) ofFile(m *model, dir map[string]int, at int) api.Errno {
	switch c.kind {
	case "Append":
		if len(m.files[at].data)+len(c.data) > 1<<20 {
			return api.ErrBig
		}
		if m.used()+len(c.data) > m.quota {
			m.full = true
			return api.ErrFull
		}
		m.files[at].data += c.data
		return api.OK
	case "Sync":
		m.files[at].sure = len(m.files[at].data)
		return api.OK
	case "Rename":
		delete(dir, c.name)
		dir[c.to] = at
	case "Remove":
		delete(dir, c.name)
	}
	m.dirs = append(m.dirs, dir)
	return api.OK
}

func plainName(s string) bool {
	return len(s) >= 1 && len(s) <= 80 && strings.Trim(s, "abcdefghijklmnopqrstuvwxyz0123456789.-_") == ""
}

func (m *model) crash(l api.Loss) {
	dir := m.dirs[0]
	for i := 1; i <= l.Dir && i < len(m.dirs); i++ {
		dir = m.dirs[i]
	}
	left := &model{quota: m.quota, calls: m.calls, stop: -1, dirs: []map[string]int{{}}}
	for at, f := range m.files {
		for name, named := range dir {
			if named != at {
				continue
			}
			long := f.sure
			for k := 0; len(l.Keep) > 0 && k < l.Keep[at%len(l.Keep)] && long < len(f.data); k++ {
				long++
			}
			left.dirs[0][name] = len(left.files)
			left.files = append(left.files, modelFile{f.data[:long], long})
		}
	}
	*m = *left
}

func (m *model) turn(name string, at int, mask byte) bool {
	n, there := m.now()[name]
	if !there || at < 0 || at >= len(m.files[n].data) {
		return false
	}
	b := []byte(m.files[n].data)
	b[at] ^= mask
	m.files[n].data = string(b)
	return true
}

// shown is all that can be asked of a model without turning it.
func (m *model) shown() string {
	var l []string
	for _, name := range slices.Sorted(maps.Keys(m.now())) {
		l = append(l, fmt.Sprintf("%s=%q", name, m.files[m.now()[name]].data))
	}
	return fmt.Sprint(l, m.used(), m.full, m.off, m.calls)
}

// shown is likewise of a disk; each way of asking has to tell the same.
func shown(t *testing.T, d *Disk) string {
	t.Helper()
	var l, names []string
	for name, b := range d.Each() {
		l = append(l, fmt.Sprintf("%s=%q", name, b))
		names = append(names, name)
		if again, err := d.Read(name); err != api.OK || !bytes.Equal(again, b) {
			t.Fatalf("Read(%q) = %q, %d; Each tells %q", name, again, err, b)
		}
	}
	if list := d.List(); !slices.Equal(list, names) {
		t.Fatalf("List: %q; Each: %q", list, names)
	}
	return fmt.Sprint(l, d.Used(), d.Full(), d.Off(), d.Calls())
}

// losses are losses of each number of changes up to so many, with many kinds of Keep.
func losses(changes int) []api.Loss {
	var l []api.Loss
	for _, keep := range [][]int{nil, {0}, {1}, {math.MaxInt}, {0, 1, 2, 3, 4, 5, 6}, {-1, 2}, {2, math.MinInt, 1}} {
		for dir := range changes + 2 {
			l = append(l, api.Loss{Dir: dir, Keep: keep})
		}
		l = append(l, api.Loss{Dir: -1, Keep: keep}, api.Loss{Dir: math.MinInt, Keep: keep}, api.Loss{Dir: math.MaxInt, Keep: keep})
	}
	return l
}

// alike tells whether d is as m: as it is, behind any loss, behind a second one, and in how far its Stop is.
func alike(t *testing.T, d *Disk, m *model) {
	t.Helper()
	if got, want := shown(t, d), m.shown(); got != want {
		t.Fatalf("disk  %s\nmodel %s", got, want)
	}
	for _, l := range losses(len(m.dirs) - 1) {
		left, other := d.Clone(), m.clone()
		for round := range 2 {
			left.Crash(l)
			other.crash(l)
			if got, want := shown(t, left), other.shown(); got != want {
				t.Fatalf("loss %v\ndisk  %s\nmodel %s", l, got, want)
			}
			for _, c := range []call{{kind: "Create", name: "new"}, {kind: "Append", name: "new", data: "xyz"}, {kind: "Append", name: "a", data: "uvw"}} {
				if err, want := c.of(left), c.ofModel(other); err != want {
					t.Fatalf("loss %v, round %d: %s = %d; want %d", l, round, c, err, want)
				}
			}
		}
	}
	left, other := d.Clone(), m.clone()
	for range 8 {
		c := call{kind: "Sync", name: "a"}
		if err, want := c.of(left), c.ofModel(other); err != want {
			t.Fatalf("%s = %d; want %d", c, err, want)
		}
	}
	if left.Off() != other.off {
		t.Fatalf("Off = %t", left.Off())
	}
}

// someCall is any of the six, now and then of a name that may not be.
func someCall(r *rand.Rand, serial int) call {
	names := []string{"a", "a", "b", "b", "c", "a.tmp", "none", "A", ""}
	kinds := []string{"Create", "Create", "Append", "Append", "Append", "Sync", "SyncDir", "Rename", "Rename", "Remove"}
	data := strings.Repeat(string(rune('a'+serial%26)), r.Intn(5))
	return call{kinds[r.Intn(len(kinds))], names[r.Intn(len(names))], names[r.Intn(len(names))], data}
}

// another turns a disk and its model by something that isn't one of the six.
func another(t *testing.T, r *rand.Rand, d *Disk, m *model) {
	t.Helper()
	switch r.Intn(6) {
	case 0:
		n := r.Intn(40) - 3
		d.Quota(n)
		m.quota, m.full = max(0, n), false
	case 1:
		k := r.Intn(9) - 1
		d.Stop(k)
		m.stop = k
	case 2:
		name, at, mask := []string{"a", "b", "none"}[r.Intn(3)], r.Intn(8)-1, byte(r.Intn(3)*16)
		if got, want := d.Turn(name, at, mask), m.turn(name, at, mask); got != want {
			t.Fatalf("Turn(%q, %d) = %t", name, at, got)
		}
	default:
		l := api.Loss{Dir: r.Intn(9) - 1}
		for range r.Intn(4) {
			l.Keep = append(l.Keep, r.Intn(9)-1)
		}
		d.Crash(l)
		m.crash(l)
	}
}

// P4.1 to P4.7: whatever is done with disks and their clones, each tells what its model tells, which was treated likewise, and loses the same.
func TestAsModels(t *testing.T) {
	r := rand.New(rand.NewSource(4))
	rounds := 150
	if testing.Short() {
		rounds = 20
	}
	for range rounds {
		quota := []int{-5, 12, 60}[r.Intn(3)]
		disks, models := []*Disk{New(quota), New(quota)}, []*model{newModel(quota), newModel(quota)}
		for serial := range 60 {
			i := r.Intn(2)
			switch n := r.Intn(30); {
			case n == 0:
				disks[1-i], models[1-i] = disks[i].Clone(), models[i].clone()
			case n < 4:
				another(t, r, disks[i], models[i])
			default:
				c := someCall(r, serial)
				if err, want := c.of(disks[i]), c.ofModel(models[i]); err != want {
					t.Fatalf("%s = %d; want %d", c, err, want)
				}
			}
			if r.Intn(4) == 0 {
				alike(t, disks[0], models[0])
				alike(t, disks[1], models[1])
			}
			if same := models[0].names() == models[1].names(); Same(disks[0], disks[1]) != same {
				t.Fatalf("Same isn't %t of %s and %s", same, models[0].names(), models[1].names())
			}
		}
	}
}

// names is names and bytes alone.
func (m *model) names() string {
	var l []string
	for _, name := range slices.Sorted(maps.Keys(m.now())) {
		l = append(l, name, m.files[m.now()[name]].data)
	}
	return fmt.Sprintf("%q", l)
}
