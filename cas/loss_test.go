package cas

import (
	"fmt"
	"maps"
	"math"
	"math/rand"
	"slices"
	"testing"

	"brazier/api"
	"brazier/disk"
)

// model is what a store's files are, without the store: keys and artefacts by names.
type model map[string][2]string

// find is the name of a key's file, and of the first one that isn't there; empty: none.
func (m model) find(key string, digits int) (own, free string) {
	for slot := 7; slot >= 0; slot-- {
		name := nameOf(key, digits, slot)
		if held, there := m[name]; !there {
			free = name
		} else if held[0] == key {
			own = name
		}
	}
	return own, free
}

// put is what Put answers, and turns.
func (m model) put(key, art string, digits int) api.Errno {
	own, free := m.find(key, digits)
	if own != "" {
		return api.OK
	}
	if free == "" {
		return api.ErrBig
	}
	m[free] = [2]string{key, art}
	return api.OK
}

// drop is likewise of Drop.
func (m model) drop(key string, digits int) api.Errno {
	own, _ := m.find(key, digits)
	if own == "" {
		return api.ErrNone
	}
	delete(m, own)
	return api.OK
}

// told fails where a store doesn't tell just what a model has, or its disk doesn't hold it.
func (m model) told(t *testing.T, d *disk.Disk, s *Store, keys []string) {
	t.Helper()
	there, files := []string{}, []string{}
	for _, name := range slices.Sorted(maps.Keys(m)) {
		files = append(files, name, frames(m[name][0], m[name][1]))
		there = append(there, m[name][0])
	}
	holds(t, d, files...)
	slices.Sort(there)
	keeps(t, s, there...)
	for _, key := range keys {
		if own, _ := m.find(key, s.digits); own != "" {
			has(t, s, key, m[own][1])
		} else {
			lacks(t, s, key)
		}
	}
}

// P6.5: whatever is put and dropped, with whatever keys that have the same files.
func TestAnyKeys(t *testing.T) {
	r := rand.New(rand.NewSource(65))
	keys := []string{"", "a", "b", "k1", "k2"}
	for i := range 40 {
		keys = append(keys, fmt.Sprint("key ", i))
	}
	for _, digits := range []int{0, 1, 2, 64} {
		d, m := disk.New(1<<20), model{}
		s := open(t, d, digits)
		for i := range 600 {
			key, art := keys[r.Intn(len(keys))], fmt.Sprint("art ", i)
			if r.Intn(5) < 3 {
				is(t, s.Put([]byte(key), []byte(art)), m.put(key, art, digits))
			} else {
				is(t, s.Drop([]byte(key)), m.drop(key, digits))
			}
			if i%20 == 0 {
				s = open(t, d, digits)
			}
			m.told(t, d, s, keys)
		}
	}
}

// act is a key that is put with an artefact, or dropped, where that is empty.
type act struct{ key, art string }

// story is a store and what may be found in it behind a loss: of each key just one of these artefacts (empty: none).
type story struct {
	disk  *disk.Disk
	store *Store
	may   map[string][]string
}

// of does it.
func (a act) of(t *testing.T, s *story) {
	t.Helper()
	was, there := s.store.Get([]byte(a.key))
	if a.art == "" {
		a.drop(t, s, there)
		return
	}
	switch err := s.store.Put([]byte(a.key), []byte(a.art)); {
	case err == api.ErrDown && !there:
		s.may[a.key] = append(s.may[a.key], a.art)
	case err == api.ErrDown:
	case err != api.OK:
		t.Fatalf("%v: %d", a, err)
	case there:
		s.may[a.key] = []string{string(was)}
	default:
		s.may[a.key] = []string{a.art}
	}
	if !s.disk.Off() {
		has(t, s.store, a.key, s.may[a.key][0])
	}
}

func (a act) drop(t *testing.T, s *story, there bool) {
	t.Helper()
	switch err := s.store.Drop([]byte(a.key)); {
	case !there:
		is(t, err, api.ErrNone)
	case err == api.OK:
		s.may[a.key] = []string{""}
	default:
		is(t, err, api.ErrDown)
		s.may[a.key] = append(s.may[a.key], "")
	}
}

// found is what a store has of a story's keys; it fails where that may not be.
func (s *story) found(t *testing.T, store *Store) map[string]string {
	t.Helper()
	all, keys := map[string]string{}, []string{}
	for key, may := range s.may {
		art, there := store.Get([]byte(key))
		if !slices.Contains(may, string(art)) {
			t.Fatalf("%q has %q, %t; it may have %q", key, art, there, may)
		}
		all[key] = string(art)
		if there {
			keys = append(keys, key)
		}
	}
	slices.Sort(keys)
	keeps(t, store, keys...)
	return all
}

// behind opens the store anew behind a loss, and fails where it doesn't have what it may have, where recovery leaves another file, or turns something when it is done again, broken off at any call or not.
func (s *story) behind(t *testing.T, lost *disk.Disk, digits int) *disk.Disk {
	t.Helper()
	d := lost.Clone()
	found := s.found(t, open(t, d, digits))
	idle(t, d, opens(digits), api.OK)
	for name, b := range d.Each() {
		if was, err := lost.Read(name); err != api.OK || string(was) != string(b) {
			t.Fatalf("%s has %q; it had %q", name, b, was)
		}
	}
	for k := 0; ; k++ {
		c := lost.Clone()
		c.Stop(k)
		if _, err := Open(c, digits); err == api.OK {
			return d
		}
		for _, l := range losses() {
			c := c.Clone()
			c.Crash(l)
			if again := s.found(t, open(t, c, digits)); !maps.Equal(again, found) || !disk.Same(c, d) {
				t.Fatalf("%q, %q; want %q, %q", again, c.List(), found, d.List())
			}
		}
	}
}

// many losses: of the directory's changes, and of bytes at each place of short entries.
func manyLosses() []api.Loss {
	var l []api.Loss
	for dir := range 4 {
		for keep := range 24 {
			l = append(l, api.Loss{Dir: dir, Keep: []int{keep}}, api.Loss{Dir: dir, Keep: []int{0, keep}})
		}
		l = append(l, api.Loss{Dir: dir}, api.Loss{Dir: dir, Keep: []int{math.MaxInt}})
	}
	return l
}

// P6.6: at whatever call the power goes, and whatever it leaves.
func TestAnyLoss(t *testing.T) {
	acts := []act{{"a", "A"}, {"b", "B"}, {"a", "new"}, {"c", "C"}, {"b", ""}, {"d", "D"}, {"a", ""}, {"a", "A2"}, {"e", ""}, {"b", "B2"}, {"c", ""}}
	for _, digits := range []int{0, 64} {
		ended := false
		for k := 0; !ended; k++ {
			d := disk.New(1 << 16)
			s := &story{d, open(t, d, digits), map[string][]string{}}
			for _, a := range acts {
				s.may[a.key] = []string{""}
			}
			d.Stop(k)
			for _, a := range acts {
				a.of(t, s)
			}
			ended = !d.Off()
			kinds := map[string]bool{} // what was left was told to recover well already
			for _, loss := range manyLosses() {
				lost := d.Clone()
				lost.Crash(loss)
				left := ""
				for name, b := range lost.Each() {
					left += fmt.Sprintf("%s %q ", name, b)
				}
				if !kinds[left] {
					kinds[left] = true
					s.behind(t, lost, digits)
				}
			}
		}
	}
}

// P6.6: without room, too, a loss takes nothing of what was there.
func TestAnyLossWithoutRoom(t *testing.T) {
	for k := range 6 {
		for _, loss := range manyLosses() {
			d := disk.New(40)
			s := &story{d, open(t, d, 0), map[string][]string{"a": {""}, "b": {""}}}
			act{"a", "A"}.of(t, s)
			d.Stop(k)
			err := s.store.Put([]byte("b"), []byte("more than there is room for"))
			if want := map[bool]api.Errno{true: api.ErrDown, false: api.ErrFull}; err != want[k < 2] {
				t.Fatalf("stopped at %d: %d", k, err)
			}
			d.Crash(loss)
			s.behind(t, d, 0)
		}
	}
}

// P6.6: however often the power goes, and the store is opened again, with or without a loss.
func TestManyLosses(t *testing.T) {
	r := rand.New(rand.NewSource(66))
	rounds := 300
	if testing.Short() {
		rounds = 30
	}
	for range rounds {
		digits := []int{0, 1, 64}[r.Intn(3)]
		s := &story{disk: disk.New(1 << 20), may: map[string][]string{}}
		for i := range 6 {
			s.may[fmt.Sprint("k", i)] = []string{""}
		}
		for n := range 8 {
			s.store = open(t, s.disk, digits)
			s.disk.Stop(r.Intn(40) - 1)
			for i := range r.Intn(12) {
				a := act{fmt.Sprint("k", r.Intn(6)), ""}
				if r.Intn(3) > 0 {
					a.art = fmt.Sprint("art", n, " ", i)
				}
				a.of(t, s)
			}
			s.disk.Crash(api.Loss{Dir: r.Intn(4), Keep: []int{r.Intn(60), r.Intn(60), r.Intn(60)}})
			s.disk = s.behind(t, s.disk, digits)
			for key, art := range s.found(t, open(t, s.disk, digits)) {
				s.may[key] = []string{art}
			}
		}
	}
}

// P6.7: of a file with a byte that was turned nothing is told, and the others are told as ever; Open removes it.
func TestTurned(t *testing.T) {
	keys := []string{"k1", "k2", "k3"}
	for _, digits := range []int{0, 64} {
		base := disk.New(1000)
		m := model{}
		s := open(t, base, digits)
		for _, key := range keys {
			put(t, s, key, "art of "+key)
			ok(t, m.put(key, "art of "+key, digits))
		}
		turned, _ := m.find("k2", digits)
		long, _ := base.Read(turned)
		delete(m, turned)
		for at := range long {
			for _, mask := range []byte{1, 2, 3, 128, 255} {
				d := base.Clone()
				s := open(t, d, digits)
				turn(t, d, turned, at, mask)
				has(t, s, "k1", "art of k1")
				has(t, s, "k3", "art of k3")
				lacks(t, s, "", "k2", "art of k2")
				for c := range 256 {
					if key := "k" + string([]byte{byte(c)}); !slices.Contains(keys, key) {
						lacks(t, s, key)
					}
				}
				keeps(t, s, "k1", "k3")
				is(t, s.Drop([]byte("k2")), api.ErrNone)
				m.told(t, d, open(t, d, digits), keys)
			}
		}
	}
}

// P6.7: a whole entry of another key isn't told for the key whose file it is; nor, if it isn't that one's file, for its own.
func TestOtherKey(t *testing.T) {
	for _, digits := range []int{1, 2, 64} {
		d := with(t, nameOf("k", digits, 0), frames("k", "art"))
		s := open(t, d, digits)
		ok(t, d.Create(nameOf("k", digits, 0)), d.Append(nameOf("k", digits, 0), []byte(frames("other", "wrong"))))
		lacks(t, s, "k", "other")
		keeps(t, s)
		is(t, s.Drop([]byte("k")), api.ErrNone)
		put(t, s, "k", "new")
		put(t, s, "other", "right")
		has(t, s, "k", "new")
		has(t, s, "other", "right")
		holds(t, open(t, d, digits).disk, sorted(nameOf("k", digits, 1), frames("k", "new"), nameOf("other", digits, 0), frames("other", "right"))...)
	}
	d := with(t, "c--0", frames("k", "art"))
	s := open(t, d, 0)
	ok(t, d.Create("c--0"), d.Append("c--0", []byte(frames("other", "its own"))))
	lacks(t, s, "k")
	has(t, s, "other", "its own")
	keeps(t, s, "other")
}

// sorted is two files by rising names: names and bytes in turn.
func sorted(a, x, b, y string) []string {
	if a > b {
		return []string{b, y, a, x}
	}
	return []string{a, x, b, y}
}

// P6.5: two stores on one disk, of the same digits, have the same.
func TestTwoStores(t *testing.T) {
	d := disk.New(1000)
	a, b := open(t, d, 3), open(t, d, 3)
	put(t, a, "k", "art")
	has(t, b, "k", "art")
	put(t, b, "k", "new")
	put(t, b, "l", "other")
	has(t, a, "k", "art")
	ok(t, a.Drop([]byte("l")))
	lacks(t, b, "l")
	keeps(t, b, "k")
}
