package disk

import (
	"fmt"
	"math"
	"math/rand"
	"slices"
	"strings"
	"testing"

	"brazier/api"
)

// behind is what a disk has behind a loss; the disk itself stays.
func behind(t *testing.T, d *Disk, l api.Loss, want ...string) {
	t.Helper()
	c := d.Clone()
	c.Crash(l)
	has(t, c, want...)
}

// P4.2, P4.6: the chapter's example.
func TestExample(t *testing.T) {
	d := New(10)
	ok(t, d.Create("a"))
	is(t, d.Append("a", make([]byte, 12)), api.ErrFull)
	ok(t, d.Append("a", []byte("12345")), d.Sync("a"), d.Append("a", []byte("67")), d.SyncDir())
	d.Crash(api.Loss{Keep: []int{1}})
	has(t, d, "a=123456")
}

// P4.6: the first of the directory's changes, in order: each is whole, and each of the four kinds is one.
func TestLossOfChanges(t *testing.T) {
	d := New(100)
	write(t, d, "a", "A")
	write(t, d, "b", "B")
	ok(t, d.Sync("a"), d.Sync("b"), d.SyncDir())
	var steps [][]string
	step := func(err api.Errno, want ...string) {
		t.Helper()
		ok(t, err)
		has(t, d, want...)
		steps = append(steps, want)
	}
	step(api.OK, "a=A", "b=B")
	step(d.Create("c"), "a=A", "b=B", "c=")
	step(d.Rename("a", "b"), "b=A", "c=")
	step(d.Rename("c", "c"), "b=A", "c=")
	step(d.Remove("b"), "c=")
	step(d.Rename("c", "a"), "a=")
	step(d.Create("a"), "a=")
	step(d.Create("b"), "a=", "b=")
	for dir, want := range steps {
		behind(t, d, api.Loss{Dir: dir}, want...)
	}
	for _, dir := range []int{len(steps), 100, math.MaxInt} {
		behind(t, d, api.Loss{Dir: dir}, "a=", "b=")
	}
	for _, dir := range []int{-1, -7, math.MinInt} {
		behind(t, d, api.Loss{Dir: dir}, "a=A", "b=B")
	}
	ok(t, d.SyncDir())
	for _, dir := range []int{-1, 0, 1, 100} {
		behind(t, d, api.Loss{Dir: dir}, "a=", "b=")
	}
}

// P4.6: calls with an error, and those that turn no name, are no changes.
func TestNoChange(t *testing.T) {
	d := New(100)
	ok(t, d.Create("a"))
	is(t, d.Create("A"), api.ErrArg)
	is(t, d.Remove("none"), api.ErrNone)
	is(t, d.Rename("none", "x"), api.ErrNone)
	ok(t, d.Append("a", []byte("x")), d.Sync("a"))
	ok(t, d.Create("b"))
	behind(t, d, api.Loss{Dir: 1}, "a=x")
	behind(t, d, api.Loss{Dir: 2}, "a=x", "b=")
}

// P4.6: sure bytes stay; of the others the first Keep, as many as there are.
func TestLossOfBytes(t *testing.T) {
	d := New(100)
	write(t, d, "a", "sure")
	ok(t, d.Sync("a"), d.SyncDir(), d.Append("a", []byte("12")), d.Append("a", []byte("345")))
	for keep, want := range map[int]string{math.MinInt: "sure", -1: "sure", 0: "sure", 1: "sure1", 2: "sure12", 4: "sure1234", 5: "sure12345", 6: "sure12345", math.MaxInt: "sure12345"} {
		behind(t, d, api.Loss{Keep: []int{keep}}, "a="+want)
		behind(t, d, api.Loss{Keep: []int{keep, 3, 3}}, "a="+want)
	}
	behind(t, d, api.Loss{}, "a=sure")
	behind(t, d, api.Loss{Keep: []int{}}, "a=sure")
	ok(t, d.Sync("a"))
	behind(t, d, api.Loss{}, "a=sure12345")
	behind(t, d, api.Loss{Keep: []int{-9}}, "a=sure12345")
}

// P4.6: files are numbered in the order in which they were made, those without a name, too; Keep goes round.
func TestNumbers(t *testing.T) {
	d := New(1000)
	data := "abcdefghi"
	for _, name := range []string{"z", "gone", "x", "x", "y", "a"} { // 0 to 5; 2 loses its name to 3
		write(t, d, name, data)
	}
	ok(t, d.Remove("gone"), d.Rename("y", "b"), d.SyncDir())
	write(t, d, "c", data) // 6
	ok(t, d.SyncDir())
	want := func(long ...int) []string {
		var l []string
		for i, name := range []string{"a", "b", "c", "x", "z"} {
			l = append(l, name+"="+data[:long[i]])
		}
		return l
	}
	behind(t, d, api.Loss{Keep: []int{1, 2, 3, 4, 5, 6, 7}}, want(6, 5, 7, 4, 1)...)
	behind(t, d, api.Loss{Keep: []int{1, 2, 3, 4, 5, 6, 7, 8, 9}}, want(6, 5, 7, 4, 1)...)
	behind(t, d, api.Loss{Keep: []int{1, 2, 3, 4}}, want(2, 1, 3, 4, 1)...)
	behind(t, d, api.Loss{Keep: []int{1, 2}}, want(2, 1, 1, 2, 1)...)
	behind(t, d, api.Loss{Keep: []int{3}}, want(3, 3, 3, 3, 3)...)
}

// P4.6: those that are left are numbered anew, in the same order, whatever their names; what is made next goes on behind them.
func TestNumbersAnew(t *testing.T) {
	d := New(1000)
	for _, name := range []string{"gone", "z", "lost", "a"} {
		write(t, d, name, "")
	}
	ok(t, d.Remove("gone"), d.SyncDir(), d.Create("unsure"))
	d.Crash(api.Loss{})
	has(t, d, "a=", "lost=", "z=") // numbers 2, 1, 0
	ok(t, d.Remove("lost"), d.SyncDir())
	write(t, d, "b", "123456") // 3
	ok(t, d.Append("a", []byte("123456")), d.Append("z", []byte("123456")), d.SyncDir())
	behind(t, d, api.Loss{Keep: []int{1, 2, 3, 4}}, "a=123", "b=1234", "z=1")
	d.Crash(api.Loss{Keep: []int{1, 2, 3, 4}})
	for _, name := range d.List() { // z 0, a 1, b 2
		ok(t, d.Append(name, []byte("......")))
	}
	behind(t, d, api.Loss{Keep: []int{1, 2, 3, 4}}, "a=123..", "b=1234...", "z=1.")
}

// P4.6: all that is there behind a loss is sure: a second one takes nothing.
func TestAllSureBehind(t *testing.T) {
	d := New(100)
	write(t, d, "a", "abc")
	write(t, d, "b", "xyz")
	ok(t, d.Rename("b", "c"))
	d.Crash(api.Loss{Dir: 9, Keep: []int{2}})
	has(t, d, "a=ab", "c=xy")
	for _, l := range losses(3) {
		d.Crash(l)
		has(t, d, "a=ab", "c=xy")
	}
	ok(t, d.Append("a", []byte("d")))
	d.Crash(api.Loss{Dir: 9})
	has(t, d, "a=ab", "c=xy")
}

// P4.6: a file that lost its name, and has it again behind the loss, has the bytes that it had; what took the name is gone.
func TestOldFileBack(t *testing.T) {
	d := New(10)
	write(t, d, "a", "old")
	ok(t, d.Sync("a"), d.SyncDir(), d.Append("a", []byte("12")))
	write(t, d, "a", "new")
	ok(t, d.Sync("a"), d.Rename("a", "b"), d.Create("a"))
	behind(t, d, api.Loss{Keep: []int{1}}, "a=old1")
	behind(t, d, api.Loss{Dir: 1, Keep: []int{1}}, "a=new")
	behind(t, d, api.Loss{Dir: 2, Keep: []int{1}}, "b=new")
	behind(t, d, api.Loss{Dir: 3, Keep: []int{1}}, "a=", "b=new")
	d.Crash(api.Loss{Keep: []int{9}})
	has(t, d, "a=old12")
	ok(t, d.Append("a", []byte("34567")))
	is(t, d.Append("a", []byte("8")), api.ErrFull)
}

// P4.6: what comes back by a loss counts, though there be no room for it.
func TestBackWithoutRoom(t *testing.T) {
	d := New(4)
	write(t, d, "a", "1234")
	ok(t, d.Sync("a"), d.SyncDir(), d.Remove("a"))
	write(t, d, "b", "1234")
	ok(t, d.Sync("b"))
	d.Quota(2)
	d.Crash(api.Loss{})
	has(t, d, "a=1234")
	is(t, d.Append("a", nil), api.ErrFull)
	ok(t, d.Sync("a"))
}

// P4.6: what is handed in is neither turned nor kept.
func TestLossIsNotKept(t *testing.T) {
	d := New(100)
	write(t, d, "a", "123456")
	ok(t, d.SyncDir())
	keep := []int{3, 4, 5}
	d.Crash(api.Loss{Dir: 1, Keep: keep[:1]})
	if !slices.Equal(keep, []int{3, 4, 5}) {
		t.Error(keep)
	}
	keep[0] = 0
	has(t, d, "a=123")
}

// P4.6: files without a name are gone, and so is what is lost: a disk keeps no more than it needs.
func TestNothingKept(t *testing.T) {
	d := New(100)
	for range 50 {
		write(t, d, "a.tmp", "12345")
		ok(t, d.Rename("a.tmp", "a"), d.SyncDir())
	}
	if len(d.files) != 1 || len(d.changes) != 0 {
		t.Error(len(d.files), len(d.changes))
	}
	ok(t, d.Append("a", make([]byte, 90)), d.Remove("a"), d.Create("b"), d.Create("c"))
	d.Crash(api.Loss{})
	if len(d.files) != 1 || len(d.changes) != 0 || d.made != 1 {
		t.Error(len(d.files), len(d.changes), d.made)
	}
	if room := cap(d.files[0].data); room > 90 {
		t.Error(room)
	}
}

// P4.7: Turn turns just that byte, by each bit of the mask, sure or not.
func TestTurn(t *testing.T) {
	d := New(100)
	write(t, d, "a", "\x00\xff0")
	ok(t, d.Sync("a"), d.SyncDir(), d.Append("a", []byte("1")))
	write(t, d, "b", "\x00\xff01")
	for at, want := range []string{"\x81\xff01", "\x81\x7e01", "\x81\x7e\xb11", "\x81\x7e\xb1\xb0"} {
		if !d.Turn("a", at, 0x81) {
			t.Errorf("isn't turned at %d", at)
		}
		has(t, d, "a="+want, "b=\x00\xff01")
	}
	behind(t, d, api.Loss{}, "a=\x81\x7e\xb1")
	behind(t, d, api.Loss{Keep: []int{1}}, "a=\x81\x7e\xb1\xb0")
	if !d.Turn("a", 1, 0) || !d.Turn("a", 0, 0x80) || !d.Turn("a", 0, 1) {
		t.Error("isn't turned")
	}
	has(t, d, "a=\x00\x7e\xb1\xb0", "b=\x00\xff01")
}

// P4.7: nothing is turned where there is no such byte, or no such name.
func TestTurnNone(t *testing.T) {
	d := New(100)
	write(t, d, "a", "123")
	ok(t, d.Create("empty"), d.Create("gone"), d.Remove("gone"))
	for _, at := range []int{-1, 3, 4, math.MinInt, math.MaxInt} {
		if d.Turn("a", at, 1) || d.Turn("a", at, 0) || d.Turn("empty", at, 1) {
			t.Error("turned at", at)
		}
	}
	for _, name := range append(wrongNames(), "empty", "gone", "none") {
		if d.Turn(name, 0, 1) {
			t.Errorf("turned %q", name)
		}
	}
	has(t, d, "a=123", "empty=")
	if d.Calls() != 5 {
		t.Error("Turn counts as a call")
	}
}

// P4.7: a clone is the same in all, and each goes on alone: its files, its names, its changes, its room, its Stop.
func TestClone(t *testing.T) {
	d, m := New(20), newModel(20)
	for _, c := range []call{{kind: "Create", name: "a"}, {kind: "Append", name: "a", data: "123"}, {kind: "Sync", name: "a"}, {kind: "SyncDir"}, {kind: "Append", name: "a", data: "45"}, {kind: "Rename", name: "a", to: "b"}, {kind: "Create", name: "a"}, {kind: "Remove", name: "b"}, {kind: "Create", name: "c"}, {kind: "Append", name: "c", data: "678"}} {
		ok(t, c.of(d), c.ofModel(m))
	}
	is(t, d.Append("a", make([]byte, 21)), api.ErrFull)
	m.calls++
	m.full = true
	d.Stop(7)
	m.stop = 7
	c := d.Clone()
	alike(t, d, m)
	alike(t, c, m)
	spoil := func(d *Disk) {
		d.Turn("c", 0, 255)
		d.Append("c", []byte("9"))
		d.Turn("c", 1, 255)
		d.Append("a", []byte("xyz"))
		d.Turn("a", 0, 255)
		d.Rename("a", "z")
		d.Create("y")
		d.Quota(1)
		d.Crash(api.Loss{})
		d.Turn("a", 0, 255)
		d.Sync("a")
		d.Remove("a")
		d.SyncDir()
		d.Crash(api.Loss{Dir: 9, Keep: []int{9}})
		d.Stop(0)
		d.SyncDir()
	}
	spoil(c)
	alike(t, d, m)
	c = d.Clone()
	spoil(d)
	alike(t, c, m)
}

// P4.7: Same asks for names and bytes alone: not for what is sure, nor for how it came there.
func TestSame(t *testing.T) {
	with := func(files ...string) *Disk {
		d := New(100)
		for _, f := range files {
			name, data, _ := strings.Cut(f, "=")
			write(t, d, name, data)
		}
		return d
	}
	other := with("b=2", "x=0")
	ok(t, other.Rename("x", "a"), other.Create("a"), other.Append("a", []byte("1")), other.Sync("a"), other.SyncDir())
	other.Quota(0)
	other.Stop(0)
	other.SyncDir()
	for _, c := range []struct {
		a, b *Disk
		same bool
	}{
		{New(1), New(2), true},
		{with("a=1", "b=2"), with("b=2", "a=1"), true},
		{with("a=1", "b=2"), other, true},
		{with("a=1", "b=2"), with("a=1"), false},
		{with("a="), New(1), false},
		{with("a=1"), with("b=1"), false},
		{with("a=1"), with("a=2"), false},
		{with("a=1"), with("a=12"), false},
		{with("a=1", "b=2"), with("a=2", "b=1"), false},
		{with("a="), with("a="), true},
		{with("a=1", "b=2"), with("a=1", "c=2"), false},
	} {
		if Same(c.a, c.b) != c.same || Same(c.b, c.a) != c.same || !Same(c.a, c.a) || !Same(c.b, c.b) {
			t.Errorf("Same of %q and %q isn't %t", c.a.List(), c.b.List(), c.same)
		}
	}
}

// stream is the bytes that the file of this number has, as many as it has: no two files' begin alike.
func stream(number, from, to int) string {
	s := fmt.Sprintf("<%d>", number)
	for i := 0; len(s) < to; i++ {
		s += fmt.Sprint(i, ",")
	}
	return s[from:to]
}

// P4.8, P4.9: whatever is called and lost: behind it a file has a beginning of the bytes that it had, and no fewer than were synced; a name that was made sure, and not touched since, has that file.
func TestSureStays(t *testing.T) {
	r := rand.New(rand.NewSource(48))
	names := []string{"a", "b", "c", "d"}
	for range 3000 {
		d := New(1 << 20)
		var long, synced []int // of each file: how many bytes it has, how many were synced
		now, sure := map[string]int{}, map[string]int{}
		for range 1 + r.Intn(25) {
			name, to := names[r.Intn(4)], names[r.Intn(4)]
			n, there := now[name]
			switch kind := r.Intn(9); {
			case kind == 0 || !there:
				ok(t, d.Create(name))
				now[name] = len(long)
				long, synced = append(long, 0), append(synced, 0)
				delete(sure, name)
			case kind < 4:
				more := 1 + r.Intn(9)
				ok(t, d.Append(name, []byte(stream(n, long[n], long[n]+more))))
				long[n] += more
			case kind < 6:
				ok(t, d.Sync(name))
				synced[n] = long[n]
			case kind == 6:
				ok(t, d.SyncDir())
				clear(sure)
				for name, n := range now {
					sure[name] = n
				}
			case kind == 7:
				ok(t, d.Rename(name, to))
				delete(now, name)
				now[to] = n
				delete(sure, name)
				delete(sure, to)
			default:
				ok(t, d.Remove(name))
				delete(now, name)
				delete(sure, name)
			}
		}
		d.Crash(api.Loss{Dir: r.Intn(12), Keep: []int{r.Intn(20), r.Intn(5), 0}[:r.Intn(4)]})
		for name, b := range d.Each() {
			checkBeginning(t, name, string(b), long, synced)
		}
		for name, n := range sure {
			b, err := d.Read(name)
			if err != api.OK || len(b) < synced[n] || string(b) != stream(n, 0, len(b)) {
				t.Fatalf("%q was made sure with %q; behind the loss it's %q, %d", name, stream(n, 0, synced[n]), b, err)
			}
		}
	}
}

// checkBeginning tells whether b is what a file had, or a beginning of it that has what was synced.
func checkBeginning(t *testing.T, name, b string, long, synced []int) {
	t.Helper()
	for n := range long {
		if len(b) >= synced[n] && len(b) <= long[n] && b == stream(n, 0, len(b)) {
			return
		}
	}
	t.Fatalf("%q has %q behind a loss: no file had that", name, b)
}

// P4.10: a file that is written beside and renamed onto another's name: at whatever call the power goes, and whatever is lost, the name has the one or the other, each whole; the new one, once all is done.
func TestRenameWhole(t *testing.T) {
	const before, after = "the old bytes", "the new ones, more of them"
	for k := range 8 {
		d := New(1000)
		write(t, d, "out", before)
		ok(t, d.Sync("out"), d.SyncDir())
		d.Stop(k)
		for i, c := range []call{{kind: "Create", name: "out.tmp"}, {kind: "Append", name: "out.tmp", data: after[:9]}, {kind: "Append", name: "out.tmp", data: after[9:]}, {kind: "Sync", name: "out.tmp"}, {kind: "Rename", name: "out.tmp", to: "out"}, {kind: "SyncDir"}, {kind: "Sync", name: "out"}} {
			if err := c.of(d); (err == api.ErrDown) != (i >= k) {
				t.Fatalf("Stop(%d): call %d is %d", k, i, err)
			}
		}
		for _, l := range losses(4) {
			c := d.Clone()
			c.Crash(l)
			b, err := c.Read("out")
			want := before
			if k >= 6 || k == 5 && l.Dir >= 2 {
				want = after
			}
			if err != api.OK || string(b) != want {
				t.Fatalf("Stop(%d), loss %v: %q, %d", k, l, b, err)
			}
		}
	}
}
