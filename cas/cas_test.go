package cas

import (
	"fmt"
	"math"
	"slices"
	"strings"
	"testing"

	"brazier/api"
	"brazier/disk"
)

// ok fails where a call wasn't OK.
func ok(t *testing.T, errs ...api.Errno) {
	t.Helper()
	for i, err := range errs {
		if err != api.OK {
			t.Fatalf("call %d: %d", i, err)
		}
	}
}

// is fails where an error isn't the one that is asked for.
func is(t *testing.T, err, want api.Errno) {
	t.Helper()
	if err != want {
		t.Fatalf("error %d; want %d", err, want)
	}
}

// with is a disk with much room and with files that are sure: names and bytes in turn.
func with(t *testing.T, files ...string) *disk.Disk {
	t.Helper()
	d := disk.New(1 << 24)
	for l := range slices.Chunk(files, 2) {
		ok(t, d.Create(l[0]), d.Append(l[0], []byte(l[1])), d.Sync(l[0]))
	}
	ok(t, d.SyncDir())
	return d
}

// holds fails where a disk's files aren't just these: names and bytes in turn.
func holds(t *testing.T, d *disk.Disk, want ...string) {
	t.Helper()
	got := []string{}
	for name, b := range d.Each() {
		got = append(got, name, string(b))
	}
	if !slices.Equal(got, append([]string{}, want...)) {
		t.Fatalf("%.400q; want %.400q", got, want)
	}
}

// open is a store on this disk.
func open(t *testing.T, d *disk.Disk, digits int) *Store {
	t.Helper()
	s, err := Open(d, digits)
	if err != api.OK || s == nil {
		t.Fatalf("Open: %d", err)
	}
	return s
}

// refused fails where Open isn't this error, without a store.
func refused(t *testing.T, d *disk.Disk, digits int, want api.Errno) {
	t.Helper()
	if s, err := Open(d, digits); err != want || s != nil {
		t.Fatalf("Open with %d digits: %t, %d; want %d", digits, s != nil, err, want)
	}
}

// put fails where a key and its artefact can't be put.
func put(t *testing.T, s *Store, key, art string) {
	t.Helper()
	ok(t, s.Put([]byte(key), []byte(art)))
}

// has fails where a store hasn't this artefact for a key.
func has(t *testing.T, s *Store, key, want string) {
	t.Helper()
	if art, there := s.Get([]byte(key)); !there || string(art) != want {
		t.Fatalf("Get(%.40q): %.40q, %t; want %.40q", key, art, there, want)
	}
}

// lacks fails where a store has something for one of these keys.
func lacks(t *testing.T, s *Store, keys ...string) {
	t.Helper()
	for _, key := range keys {
		if art, there := s.Get([]byte(key)); there || len(art) != 0 {
			t.Fatalf("Get(%.40q): %.40q, %t; want none", key, art, there)
		}
	}
}

// keeps fails where a store's keys aren't just these.
func keeps(t *testing.T, s *Store, want ...string) {
	t.Helper()
	got := []string{}
	for _, key := range s.Keys() {
		got = append(got, string(key))
	}
	if !slices.Equal(got, append([]string{}, want...)) || s.Len() != len(want) {
		t.Fatalf("Keys %.400q, Len %d; want %.400q", got, s.Len(), want)
	}
}

// step is one of a disk's calls.
type step func(d *disk.Disk) api.Errno

func creates(name string) step { return func(d *disk.Disk) api.Errno { return d.Create(name) } }

func appends(name, b string) step {
	return func(d *disk.Disk) api.Errno { return d.Append(name, []byte(b)) }
}

func syncs(name string) step { return func(d *disk.Disk) api.Errno { return d.Sync(name) } }

func renames(from, to string) step {
	return func(d *disk.Disk) api.Errno { return d.Rename(from, to) }
}

func removes(name string) step { return func(d *disk.Disk) api.Errno { return d.Remove(name) } }

func syncsDir(d *disk.Disk) api.Errno { return d.SyncDir() }

// lays is the steps by which an entry is laid down.
func lays(name, b string) []step {
	return []step{creates(name + ".tmp"), appends(name+".tmp", b), syncs(name + ".tmp"), renames(name+".tmp", name), syncsDir}
}

// losses are losses of some kinds.
func losses() []api.Loss {
	var l []api.Loss
	for _, keep := range [][]int{nil, {1}, {30, 0, 9}, {math.MaxInt}} {
		for dir := range 4 {
			l = append(l, api.Loss{Dir: dir, Keep: keep})
		}
	}
	return l
}

// alike fails where two disks haven't the same files, as they are and behind losses.
func alike(t *testing.T, got, want *disk.Disk) {
	t.Helper()
	if !disk.Same(got, want) {
		t.Fatalf("%q; want %q", got.List(), want.List())
	}
	for _, l := range losses() {
		a, b := got.Clone(), want.Clone()
		a.Crash(l)
		b.Crash(l)
		if !disk.Same(a, b) {
			t.Fatalf("behind %v: %q; want %q", l, a.List(), b.List())
		}
	}
}

// takes fails where what is done isn't just these steps in their order, on a disk as base is: it is stopped at each of them. Its last step's error is what is answered.
func takes(t *testing.T, base *disk.Disk, do func(d *disk.Disk) api.Errno, steps ...step) {
	t.Helper()
	for k := range len(steps) + 2 {
		got, want := base.Clone(), base.Clone()
		got.Stop(k)
		err := do(got)
		last := api.OK
		for _, s := range steps[:min(k, len(steps))] {
			last = s(want)
		}
		if k < len(steps) {
			last = api.ErrDown
		}
		if err != last || got.Off() != (k < len(steps)) || got.Calls() != base.Calls()+min(k+1, len(steps)) {
			t.Fatalf("stopped at %d: %d, %d calls; want %d, %d", k, err, got.Calls()-base.Calls(), last, len(steps))
		}
		alike(t, got, want)
	}
}

// idle fails where what is done isn't this error, or calls the disk.
func idle(t *testing.T, d *disk.Disk, do func(d *disk.Disk) api.Errno, want api.Errno) {
	t.Helper()
	before := d.Clone()
	is(t, do(d), want)
	alike(t, d, before)
	if d.Calls() != before.Calls() {
		t.Fatalf("%d calls", d.Calls()-before.Calls())
	}
}

// turn fails where there is no such byte to be turned.
func turn(t *testing.T, d *disk.Disk, name string, at int, mask byte) {
	t.Helper()
	if !d.Turn(name, at, mask) {
		t.Fatalf("%s has no byte %d", name, at)
	}
}

// opens is Open's error alone.
func opens(digits int) func(d *disk.Disk) api.Errno {
	return func(d *disk.Disk) api.Errno {
		s, err := Open(d, digits)
		if (s == nil) != (err != api.OK) {
			return -1
		}
		return err
	}
}

// puts is a Put to a disk where all is sound: to open it makes no call.
func puts(t *testing.T, digits int, key, art string) func(d *disk.Disk) api.Errno {
	return func(d *disk.Disk) api.Errno { return open(t, d, digits).Put([]byte(key), []byte(art)) }
}

// drops is likewise a Drop.
func drops(t *testing.T, digits int, key string) func(d *disk.Disk) api.Errno {
	return func(d *disk.Disk) api.Errno { return open(t, d, digits).Drop([]byte(key)) }
}

// off is a disk whose power is off.
func off(d *disk.Disk) *disk.Disk {
	d.Stop(0)
	d.SyncDir()
	return d
}

// The chapter's example.
func TestExample(t *testing.T) {
	d := disk.New(1000)
	s := open(t, d, 0)
	put(t, s, "k1", "one")
	put(t, s, "k2", "two")
	holds(t, d, "c--0", frames("k1", "one"), "c--1", frames("k2", "two"))
	has(t, s, "k1", "one")
	has(t, s, "k2", "two")
}

// P6.2: digits from 0 to 64; that is asked ahead of the power.
func TestOpenDigits(t *testing.T) {
	for _, digits := range []int{-1, 65, 66, math.MinInt, math.MaxInt} {
		d := with(t, "c-wrong", "")
		before := d.Clone()
		refused(t, d, digits, api.ErrArg)
		alike(t, d, before)
		refused(t, nil, digits, api.ErrArg)
		refused(t, off(d), digits, api.ErrArg)
	}
	for _, digits := range []int{0, 1, 63, 64} {
		s := open(t, disk.New(1000), digits)
		put(t, s, "k", "a")
		has(t, s, "k", "a")
	}
}

// P6.2: with power off, and of a nil disk.
func TestOpenDown(t *testing.T) {
	refused(t, nil, 0, api.ErrDown)
	for _, d := range []*disk.Disk{disk.New(100), with(t, nameOf("k", 64, 0), frames("k", "a")), with(t, "c-wrong", "")} {
		before := d.Clone()
		refused(t, off(d), 64, api.ErrDown)
		alike(t, d, before)
	}
}

// unsound is names and bytes in turn of files that aren't sound with two digits.
func unsound() []string {
	k := nameOf("k", 2, 0)
	whole := frames("k", "art")
	return []string{
		"c-", whole,
		"c--0", whole,
		"c-x", "",
		nameOf("k", 1, 0), whole,
		nameOf("k", 3, 0), whole,
		nameOf("k", 64, 0), whole,
		nameOf("k", 2, 8), whole,
		nameOf("k", 2, 10), whole,
		k + ".tmp", whole,
		k + "0", whole,
		strings.TrimSuffix(k, "0"), whole,
		nameOf("k", 2, 1), whole[:len(whole)-1],
		nameOf("k", 2, 2), whole + "\x00",
		nameOf("k", 2, 3), frames("k"),
		nameOf("k", 2, 4), frames("k", "art", ""),
		nameOf("k", 2, 5), "",
		nameOf("k", 2, 6), frames("other", "art"),
		nameOf("k", 2, 7), "k" + whole,
	}
}

// P6.2: what isn't sound goes, in the order of List; then SyncDir.
func TestOpenUnsound(t *testing.T) {
	good := []string{nameOf("k", 2, 0), frames("k", "art"), nameOf("other", 2, 5), frames("other", "")}
	others := []string{"c", "c.", "cc-", "b-", "d-", "-c-", "log", "out.s", "0c-0"}
	files := good
	for _, name := range others {
		files = append(files, name, "whatever")
	}
	bad := unsound()
	for l := range slices.Chunk(bad, 2) {
		takes(t, with(t, l...), opens(2), removes(l[0]), syncsDir)
	}
	names := []string{}
	for l := range slices.Chunk(bad, 2) {
		names = append(names, l[0])
	}
	slices.Sort(names)
	steps := []step{}
	for _, name := range names {
		steps = append(steps, removes(name))
	}
	d := with(t, append(bad, files...)...)
	takes(t, d, opens(2), append(steps, syncsDir)...)
	s := open(t, d, 2)
	keeps(t, s, "k", "other")
	has(t, s, "k", "art")
	has(t, s, "other", "")
	if !disk.Same(d, with(t, files...)) {
		t.Fatalf("%q", d.List())
	}
	d.Crash(api.Loss{})
	takes(t, d, opens(2))
}

// P6.2: nothing is turned where all is sound, in whatever slots.
func TestOpenSound(t *testing.T) {
	for _, digits := range []int{0, 1, 64} {
		d := with(t, "log", "", "out.s", "text")
		for slot := range 8 {
			name, b := nameOf("k", digits, slot), frames("k", fmt.Sprint(slot))
			ok(t, d.Create(name), d.Append(name, []byte(b)))
		}
		takes(t, d, opens(digits))
		keeps(t, open(t, d, digits), "k")
		turn(t, d, nameOf("k", digits, 3), 5, 1)
		turn(t, d, nameOf("k", digits, 6), 0, 128)
		takes(t, d, opens(digits), removes(nameOf("k", digits, 3)), removes(nameOf("k", digits, 6)), syncsDir)
	}
}

// P6.2: of other digits nothing is sound, but where the names are the same.
func TestOpenOtherDigits(t *testing.T) {
	d := disk.New(1000)
	put(t, open(t, d, 3), "k", "a")
	takes(t, d, opens(4), removes(nameOf("k", 3, 0)), syncsDir)
	s := open(t, d, 4)
	lacks(t, s, "k")
	keeps(t, s)
	put(t, s, "k", "b")
	holds(t, d, nameOf("k", 4, 0), frames("k", "b"))
}

// P6.3: the first slot whose file is an entry with that very key.
func TestGet(t *testing.T) {
	d := with(t, "c--1", frames("a", "A"), "c--2", frames("b", "B"), "c--4", frames("a", "later"), "c--7", frames("", ""), "log", "")
	s := open(t, d, 0)
	before, calls := d.Clone(), d.Calls()
	has(t, s, "a", "A")
	has(t, s, "b", "B")
	has(t, s, "", "")
	lacks(t, s, "c", "A", "ab", "B", "a\x00", many(api.MaxText), many(api.MaxText+1))
	if art, there := s.Get(nil); !there || len(art) != 0 {
		t.Error(art, there)
	}
	turn(t, d, "c--1", 9, 1)
	has(t, s, "a", "later")
	turn(t, d, "c--1", 9, 1)
	has(t, s, "a", "A")
	alike(t, d, before)
	off(d)
	has(t, s, "a", "A")
	lacks(t, s, "c")
	if d.Calls() != calls+1 {
		t.Error(d.Calls())
	}
}

// P6.3: what is told is new memory.
func TestGetIsNew(t *testing.T) {
	d := with(t, nameOf("k", 64, 0), frames("k", "art"))
	s := open(t, d, 64)
	room := []byte("klmnop")
	art, _ := s.Get(room[:1])
	clear(art)
	has(t, s, "k", "art")
	if string(room) != "klmnop" {
		t.Errorf("%q", room)
	}
}

// P6.3: an entry is laid down by these calls, in the first slot whose file isn't there.
func TestPut(t *testing.T) {
	for _, digits := range []int{0, 2, 64} {
		for _, art := range []string{"", "art", many(1000)} {
			name := nameOf("k", digits, 0)
			for _, d := range []*disk.Disk{disk.New(1 << 20), with(t, "log", "whatever")} {
				takes(t, d, puts(t, digits, "k", art), lays(name, frames("k", art))...)
				put(t, open(t, d, digits), "k", art)
				d.Crash(api.Loss{})
				has(t, open(t, d, digits), "k", art)
				keeps(t, open(t, d, digits), "k")
			}
		}
	}
}

// P6.3: slots are taken from the first on; those of others, sound or not, stay.
func TestPutSlots(t *testing.T) {
	d := disk.New(1 << 20)
	s := open(t, d, 0)
	for i := range 8 {
		key := fmt.Sprint("k", i)
		takes(t, d, puts(t, 0, key, "art"), lays(fmt.Sprint("c--", i), frames(key, "art"))...)
		put(t, s, key, "art")
	}
	idle(t, d, puts(t, 0, "k8", ""), api.ErrBig)
	idle(t, d, puts(t, 0, "k7", ""), api.OK)
}

// P6.3: whichever slots are free, the first of them.
func TestPutGaps(t *testing.T) {
	for free := range 256 {
		d, first := disk.New(1<<20), -1
		for slot := range 8 {
			if free>>slot&1 == 0 {
				name := fmt.Sprint("c--", slot)
				ok(t, d.Create(name), d.Append(name, []byte(frames(fmt.Sprint("k", slot), "art"))))
			} else if first < 0 {
				first = slot
			}
		}
		if free == 0 {
			idle(t, d, puts(t, 0, "k", "new"), api.ErrBig)
			continue
		}
		s, before := open(t, d, 0), d.Clone()
		put(t, s, "k", "new")
		for _, step := range lays(fmt.Sprint("c--", first), frames("k", "new")) {
			ok(t, step(before))
		}
		alike(t, d, before)
		has(t, s, "k", "new")
	}
}

// P6.3: what is there stays, whatever is put; nothing is called.
func TestPutAgain(t *testing.T) {
	d := with(t, "c--0", frames("a", "A"), "c--3", frames("k", "old"))
	idle(t, d, puts(t, 0, "k", "new"), api.OK)
	idle(t, d, puts(t, 0, "a", ""), api.OK)
	has(t, open(t, d, 0), "k", "old")
	s := open(t, d, 0)
	ok(t, s.Drop([]byte("k")))
	put(t, s, "k", "new")
	holds(t, d, "c--0", frames("a", "A"), "c--1", frames("k", "new"))
}

// P6.3: a file that isn't an entry any more takes its slot all the same.
func TestPutTurned(t *testing.T) {
	d := disk.New(1 << 20)
	s := open(t, d, 64)
	for i := range 8 {
		put(t, s, "k", fmt.Sprint(i))
		turn(t, d, nameOf("k", 64, i), 0, 1)
		lacks(t, s, "k")
		keeps(t, s)
	}
	idle(t, d, func(*disk.Disk) api.Errno { return s.Put([]byte("k"), nil) }, api.ErrBig)
	put(t, open(t, d, 64), "k", "new")
	holds(t, d, nameOf("k", 64, 0), frames("k", "new"))
}

// P6.3: Entry's error, ahead of the power's and of what is there.
func TestPutBig(t *testing.T) {
	great := many(api.MaxText + 1)
	d := with(t, nameOf("k", 64, 0), frames("k", "art"))
	s := open(t, d, 64)
	for range 2 {
		for _, l := range [][2]string{{great, ""}, {"k", great}, {"other", great}, {great, great}} {
			idle(t, d, func(*disk.Disk) api.Errno { return s.Put([]byte(l[0]), []byte(l[1])) }, api.ErrBig)
		}
		off(d)
	}
	d.Crash(api.Loss{})
	most := many(api.MaxText)
	put(t, s, most, most)
	has(t, s, most, most)
}

// P6.3: with power off nothing can be put, though it be there, or have no slot.
func TestPutDown(t *testing.T) {
	d := disk.New(1000)
	s := open(t, d, 0)
	for i := range 8 {
		put(t, s, fmt.Sprint("k", i), "art")
	}
	off(d)
	for _, key := range []string{"k0", "k7", "k8", ""} {
		idle(t, d, func(*disk.Disk) api.Errno { return s.Put([]byte(key), []byte("new")) }, api.ErrDown)
	}
	d.Crash(api.Loss{})
	ok(t, s.Put([]byte("k0"), []byte("new")), s.Drop([]byte("k3")), s.Put([]byte("k8"), []byte("new")))
	has(t, s, "k0", "art")
	has(t, s, "k8", "new")
}

// P6.3: without room the .tmp goes again; with just as much as is asked for there is enough.
func TestPutFull(t *testing.T) {
	files := []string{nameOf("a", 64, 0), frames("a", "A"), "log", "whatever"}
	entry := frames("key", "artefact")
	name := nameOf("key", 64, 0)
	steps := []step{creates(name + ".tmp"), appends(name+".tmp", entry), removes(name + ".tmp")}
	for room := range entry {
		d := with(t, files...)
		d.Quota(d.Used() + room)
		for stop := range 4 {
			got, want := d.Clone(), d.Clone()
			got.Stop(stop)
			want.Stop(stop)
			for _, s := range steps {
				s(want)
			}
			is(t, puts(t, 64, "key", "artefact")(got), []api.Errno{api.ErrDown, api.ErrDown, api.ErrFull, api.ErrFull}[stop])
			alike(t, got, want)
			if got.Full() != want.Full() || got.Calls() != want.Calls() {
				t.Fatalf("stopped at %d: %t, %d calls; want %t, %d", stop, got.Full(), got.Calls(), want.Full(), want.Calls())
			}
		}
		s := open(t, d, 64)
		is(t, s.Put([]byte("key"), []byte("artefact")), api.ErrFull)
		lacks(t, s, "key")
		keeps(t, s, "a")
		if !disk.Same(d, with(t, files...)) || !d.Full() {
			t.Fatalf("room %d: %q", room, d.List())
		}
		d.Quota(d.Used() + len(entry))
		put(t, s, "key", "artefact")
		has(t, s, "key", "artefact")
	}
}

// P6.3: as many names as there may be: Create's error, and nothing.
func TestPutNames(t *testing.T) {
	d := with(t, nameOf("a", 64, 0), frames("a", "A"))
	for i := range api.MaxFiles - 1 {
		ok(t, d.Create(fmt.Sprint("other", i)))
	}
	s, before := open(t, d, 64), d.Clone()
	is(t, s.Put([]byte("k"), []byte("art")), api.ErrBig)
	alike(t, d, before)
	if d.Calls() != before.Calls()+1 {
		t.Errorf("%d calls", d.Calls()-before.Calls())
	}
	put(t, s, "a", "new")
	ok(t, d.Remove("other0"))
	put(t, s, "k", "art")
	is(t, s.Put([]byte("l"), []byte("art")), api.ErrBig)
	ok(t, s.Drop([]byte("a")))
	put(t, s, "l", "art")
	keeps(t, s, "k", "l")
}

// P6.3: what is left of an entry that wasn't laid down whole is made anew.
func TestPutSpare(t *testing.T) {
	d := disk.New(1000)
	s := open(t, d, 0)
	for k := range 4 {
		d.Stop(k)
		is(t, s.Put([]byte("k"), []byte("art")), api.ErrDown)
		lacks(t, s, "k")
		keeps(t, s)
		d.Crash(api.Loss{Dir: 9, Keep: []int{7}})
	}
	put(t, s, "k", "new")
	holds(t, d, "c--0", frames("k", "new"))
}

// P6.3: what is handed in is neither turned nor kept.
func TestPutKeepsNothing(t *testing.T) {
	d := disk.New(1000)
	s := open(t, d, 64)
	room := []byte("abcdefghijklmnopqrstuvwxyz")
	ok(t, s.Put(room[:2], room[2:4]))
	if string(room) != "abcdefghijklmnopqrstuvwxyz" {
		t.Errorf("%q", room)
	}
	clear(room)
	has(t, s, "ab", "cd")
	holds(t, d, nameOf("ab", 64, 0), frames("ab", "cd"))
}

// P6.3: the file that Get finds goes, and surely so.
func TestDrop(t *testing.T) {
	d := with(t, "c--1", frames("a", "A"), "c--2", frames("k", "first"), "c--5", frames("k", "second"), "log", "")
	takes(t, d, drops(t, 0, "k"), removes("c--2"), syncsDir)
	takes(t, d, drops(t, 0, "a"), removes("c--1"), syncsDir)
	s := open(t, d, 0)
	ok(t, s.Drop([]byte("k")))
	d.Crash(api.Loss{})
	has(t, s, "k", "second")
	holds(t, d, "c--1", frames("a", "A"), "c--5", frames("k", "second"), "log", "")
	turn(t, d, "c--1", 0, 1)
	idle(t, d, func(*disk.Disk) api.Errno { return s.Drop([]byte("a")) }, api.ErrNone)
	ok(t, s.Drop([]byte("k")))
	lacks(t, s, "k", "a")
	keeps(t, s)
	is(t, s.Drop([]byte("k")), api.ErrNone)
}

// P6.3: of a key that has none nothing is called, with power or without.
func TestDropNone(t *testing.T) {
	d := with(t, "c--0", frames("a", "A"), "c--3", frames("", "none"), "other", frames("k", "art"))
	s := open(t, d, 0)
	for range 2 {
		for _, key := range []string{"k", "A", "aa", "none", many(api.MaxText + 1)} {
			idle(t, d, func(*disk.Disk) api.Errno { return s.Drop([]byte(key)) }, api.ErrNone)
		}
		off(d)
	}
	before := d.Clone()
	is(t, s.Drop([]byte("a")), api.ErrDown)
	is(t, s.Drop(nil), api.ErrDown)
	alike(t, d, before)
}

// P6.3: what is handed in is neither turned nor kept.
func TestDropKeepsNothing(t *testing.T) {
	d := disk.New(1000)
	s := open(t, d, 64)
	put(t, s, "a", "A")
	room := []byte("abcdef")
	ok(t, s.Drop(room[:1]))
	if string(room) != "abcdef" {
		t.Errorf("%q", room)
	}
}

// P6.4: the keys of all sound files, rising by their bytes, each once.
func TestKeys(t *testing.T) {
	d := disk.New(1 << 20)
	s := open(t, d, 2)
	keeps(t, s)
	want := []string{"", "\x00", "\x00\x00", "A", "a", "a\x00", "aa", "ab", "b", "\x7f", "\x80", "é", "\xff", "\xff\x00"}
	for _, i := range []int{5, 0, 13, 8, 2, 10, 1, 12, 3, 9, 4, 11, 6, 7} {
		put(t, s, want[i], "art")
	}
	keeps(t, s, want...)
	for _, slot := range []int{3, 6} {
		name, b := nameOf("aa", 2, slot), frames("aa", "twice")
		ok(t, d.Create(name), d.Append(name, []byte(b)))
	}
	keeps(t, s, want...)
	off(d)
	keeps(t, s, want...)
}

// P6.4: of files that aren't sound nothing is told, though they came behind Open.
func TestKeysUnsound(t *testing.T) {
	d := disk.New(1 << 20)
	s := open(t, d, 2)
	for l := range slices.Chunk(append(unsound(), "log", frames("log", ""), "out.s", frames("k", "art"), "d"+nameOf("k", 2, 0), frames("k", "art")), 2) {
		ok(t, d.Create(l[0]), d.Append(l[0], []byte(l[1])))
		keeps(t, s)
	}
	lacks(t, s, "k", "other", "log")
	put(t, s, "k", "art")
	keeps(t, s, "k")
}

// P6.4: what is told is new memory.
func TestKeysIsNew(t *testing.T) {
	d := disk.New(1000)
	s := open(t, d, 64)
	put(t, s, "one", "1")
	put(t, s, "two", "2")
	l := s.Keys()
	_ = append(l[0], "more"...)
	for i := range l {
		clear(l[i])
	}
	clear(l)
	keeps(t, s, "one", "two")
	has(t, s, "one", "1")
	has(t, s, "two", "2")
}

// P6.4: of a nil store.
func TestNil(t *testing.T) {
	var s *Store
	great := make([]byte, api.MaxText+1)
	for range 2 {
		lacks(t, s, "", "k")
		keeps(t, s)
		for _, err := range []api.Errno{s.Put(nil, nil), s.Put([]byte("k"), []byte("art")), s.Put(great, great), s.Drop(nil), s.Drop([]byte("k")), s.Drop(great)} {
			is(t, err, api.ErrDown)
		}
	}
}
