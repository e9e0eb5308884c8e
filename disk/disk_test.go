package disk

import (
	"fmt"
	"math"
	"slices"
	"strings"
	"testing"

	"brazier/api"
)

// ok fails where a call wasn't OK.
func ok(t *testing.T, errs ...api.Errno) {
	t.Helper()
	for i, err := range errs {
		if err != api.OK {
			t.Fatalf("call %d: %d", i, err)
		}
	}
}

// is fails where an error isn't the one that is asked for.
func is(t *testing.T, err, want api.Errno) {
	t.Helper()
	if err != want {
		t.Fatalf("error %d; want %d", err, want)
	}
}

// has tells whether the disk has just these files, each a name, = and its bytes, by all that asks for them.
func has(t *testing.T, d *Disk, want ...string) {
	t.Helper()
	got := []string{}
	used := 0
	for name, b := range d.Each() {
		got = append(got, name+"="+string(b))
		used += len(b)
		if again, err := d.Read(name); err != api.OK || string(again) != string(b) {
			t.Fatalf("Read(%q) = %q, %d", name, again, err)
		}
	}
	if !slices.Equal(got, want) {
		t.Fatalf("%q; want %q", got, want)
	}
	names := d.List()
	for i, f := range want {
		if len(names) != len(want) || names[i] != strings.Split(f, "=")[0] {
			t.Fatalf("List: %q; want %q", names, want)
		}
	}
	if len(names) != len(want) || d.Used() != used {
		t.Fatalf("List: %q, Used: %d; want %q", names, d.Used(), want)
	}
}

// write makes a file with these bytes.
func write(t *testing.T, d *Disk, name, data string) {
	t.Helper()
	ok(t, d.Create(name), d.Append(name, []byte(data)))
}

// P4.1: 1 to 80 bytes, each of them one of these.
func TestMayName(t *testing.T) {
	const may = "abcdefghijklmnopqrstuvwxyz0123456789.-_"
	for i := range 256 {
		c := string([]byte{byte(i)})
		in := strings.Contains(may, c)
		for _, s := range []string{c, "a" + c, c + "a", "a" + c + "a", strings.Repeat("z", 79) + c, c + strings.Repeat("9", 79)} {
			if MayName(s) != in {
				t.Errorf("MayName(%q) = %t", s, !in)
			}
		}
	}
	for _, s := range []string{"log", "out.s", "out.s.tmp", "c-09af-7", ".", "..", "-", "_", strings.Repeat("a", 80)} {
		if !MayName(s) {
			t.Errorf("%q may not be", s)
		}
	}
	for _, s := range []string{"", strings.Repeat("a", 81), strings.Repeat("a", 1000), "é", "a/b", "a b", "a\n", "\x00", "a\x00"} {
		if MayName(s) {
			t.Errorf("%q may be", s)
		}
	}
}

// P4.1: a new disk has no files, so much room, and its power.
func TestNew(t *testing.T) {
	for _, quota := range []int{math.MinInt, -1, 0, 1, 10, math.MaxInt} {
		d := New(quota)
		has(t, d)
		if d.Off() || d.Full() || d.Calls() != 0 || !Same(d, New(7)) {
			t.Errorf("New(%d): %t, %t, %d", quota, d.Off(), d.Full(), d.Calls())
		}
		ok(t, d.Create("a"), d.Append("a", nil), d.Append("a", []byte{}), d.Sync("a"), d.SyncDir())
		has(t, d, "a=")
		switch room := min(max(quota, 0), 1000); room {
		case 1000:
			ok(t, d.Append("a", make([]byte, 1000)))
		default:
			is(t, d.Append("a", make([]byte, room+1)), api.ErrFull)
			ok(t, d.Append("a", make([]byte, room)))
			is(t, d.Append("a", []byte{1}), api.ErrFull)
		}
	}
}

// P4.2: what each of the six does, where there is no error.
func TestSix(t *testing.T) {
	d := New(100)
	write(t, d, "b", "one")
	has(t, d, "b=one")
	ok(t, d.Append("b", []byte("two")))
	has(t, d, "b=onetwo")
	write(t, d, "a", "A")
	has(t, d, "a=A", "b=onetwo")
	ok(t, d.Sync("a"), d.SyncDir())
	has(t, d, "a=A", "b=onetwo")
	ok(t, d.Rename("a", "c"))
	has(t, d, "b=onetwo", "c=A")
	ok(t, d.Rename("c", "b"))
	has(t, d, "b=A")
	ok(t, d.Append("b", []byte("B")), d.Rename("b", "b"))
	has(t, d, "b=AB")
	ok(t, d.Create("b"))
	has(t, d, "b=")
	ok(t, d.Remove("b"))
	has(t, d)
	is(t, d.Remove("b"), api.ErrNone)
	ok(t, d.Create("b"))
	has(t, d, "b=")
}

// wrongNames may not be a file's.
func wrongNames() []string {
	return []string{"", "A", "a/b", "a b", "é", "a\x00", strings.Repeat("a", 81)}
}

// P4.2: ErrArg of each name that may not be, ErrNone of one that isn't there, ErrArg ahead of it; nothing is turned.
func TestWrongNames(t *testing.T) {
	d, m := New(100), newModel(100)
	for _, c := range []call{{kind: "Create", name: "a"}, {kind: "Append", name: "a", data: "bytes"}, {kind: "Sync", name: "a"}, {kind: "SyncDir"}, {kind: "Append", name: "a", data: "more"}, {kind: "Create", name: "b"}} {
		ok(t, c.of(d), c.ofModel(m))
	}
	wrong := func(err, want api.Errno) {
		t.Helper()
		is(t, err, want)
		m.calls++
		alike(t, d, m)
	}
	for _, name := range wrongNames() {
		wrong(d.Create(name), api.ErrArg)
		wrong(d.Append(name, []byte("x")), api.ErrArg)
		wrong(d.Append(name, make([]byte, 1<<21)), api.ErrArg)
		wrong(d.Sync(name), api.ErrArg)
		wrong(d.Rename(name, "c"), api.ErrArg)
		wrong(d.Rename("a", name), api.ErrArg)
		wrong(d.Rename("none", name), api.ErrArg)
		wrong(d.Rename(name, name), api.ErrArg)
		wrong(d.Remove(name), api.ErrArg)
	}
	wrong(d.Append("none", []byte("x")), api.ErrNone)
	wrong(d.Append("none", make([]byte, 1<<21)), api.ErrNone)
	wrong(d.Sync("none"), api.ErrNone)
	wrong(d.Rename("none", "a"), api.ErrNone)
	wrong(d.Rename("none", "none"), api.ErrNone)
	wrong(d.Remove("none"), api.ErrNone)
}

// P4.2: a disk has at most MaxFiles names; one that is there may be made anew, or renamed.
func TestMaxFiles(t *testing.T) {
	d := New(100)
	for i := range api.MaxFiles {
		ok(t, d.Create(fmt.Sprint("f", i)))
	}
	write(t, d, "f7", "seven")
	before := d.Clone()
	is(t, d.Create("one.more"), api.ErrBig)
	is(t, d.Create("ONE"), api.ErrArg)
	if !Same(d, before) || len(d.List()) != 1024 || d.Full() {
		t.Fatal("turned by an error")
	}
	ok(t, d.Create("f7"), d.Rename("f8", "new"))
	is(t, d.Create("f8"), api.ErrBig)
	ok(t, d.Rename("f9", "new"), d.Create("f9"))
	is(t, d.Create("f8"), api.ErrBig)
	ok(t, d.Remove("f0"), d.Create("f8"))
	is(t, d.Create("f0"), api.ErrBig)
	ok(t, d.SyncDir())
	is(t, d.Create("f0"), api.ErrBig)
	d.Crash(api.Loss{})
	is(t, d.Create("f0"), api.ErrBig)
	ok(t, d.Create("f1"))
}

// P4.2: a file has at most MaxFile bytes, whatever the room; ErrBig ahead of ErrFull.
func TestMaxFile(t *testing.T) {
	const most = 1 << 20
	d := New(math.MaxInt)
	ok(t, d.Create("a"), d.Create("b"))
	is(t, d.Append("a", make([]byte, most+1)), api.ErrBig)
	has(t, d, "a=", "b=")
	ok(t, d.Append("a", make([]byte, most)), d.Append("a", nil))
	is(t, d.Append("a", []byte{1}), api.ErrBig)
	ok(t, d.Append("b", make([]byte, most-2)))
	is(t, d.Append("b", make([]byte, 3)), api.ErrBig)
	ok(t, d.Append("b", make([]byte, 2)))
	if d.Used() != 2*most || d.Full() {
		t.Error(d.Used(), d.Full())
	}
	d.Quota(5)
	is(t, d.Append("a", []byte{1}), api.ErrBig)
	if d.Full() {
		t.Error("full by ErrBig")
	}
	is(t, d.Append("a", nil), api.ErrFull)
}

// P4.2, P4.3: the room counts all bytes of files that have a name, and of no others.
func TestRoom(t *testing.T) {
	d := New(10)
	write(t, d, "a", "12345")
	write(t, d, "b", "123")
	is(t, d.Append("a", []byte("678")), api.ErrFull)
	has(t, d, "a=12345", "b=123")
	ok(t, d.Append("b", []byte("45")), d.Append("b", nil))
	is(t, d.Append("a", []byte("6")), api.ErrFull)
	ok(t, d.Remove("a"), d.Append("b", []byte("67890")))
	is(t, d.Append("b", []byte("1")), api.ErrFull)
	ok(t, d.Create("b"))
	write(t, d, "c", "1234567890")
	ok(t, d.Rename("b", "c"))
	write(t, d, "b", "1234567890")
	has(t, d, "b=1234567890", "c=")
}

// P4.2: what is appended is copied: the bytes that were handed in aren't kept, nor turned, their spare room included.
func TestAppendCopies(t *testing.T) {
	d := New(100)
	ok(t, d.Create("a"), d.Create("b"))
	room := []byte("abcdef")
	ok(t, d.Append("a", room[:3]), d.Append("b", room[:2]), d.Append("a", room[:1]), d.Append("b", nil))
	if string(room) != "abcdef" {
		t.Errorf("turned: %q", room)
	}
	copy(room, "zzzzzz")
	has(t, d, "a=abca", "b=ab")
	ok(t, d.Append("a", []byte("!")))
	if string(room) != "zzzzzz" {
		t.Errorf("turned: %q", room)
	}
}

// P4.3: Read of a name that isn't there, and of one that may not be.
func TestReadNone(t *testing.T) {
	d := New(100)
	write(t, d, "a", "x")
	write(t, d, "b", "y")
	ok(t, d.Rename("b", "c"))
	for _, name := range append(wrongNames(), "none", "b", "a.tmp") {
		if b, err := d.Read(name); len(b) != 0 || err != api.ErrNone {
			t.Errorf("Read(%q) = %q, %d", name, b, err)
		}
	}
	ok(t, d.Create("empty"))
	if b, err := d.Read("empty"); len(b) != 0 || err != api.OK {
		t.Errorf("%q, %d", b, err)
	}
}

// P4.3: what is answered is new memory: to turn it, or to append to it, turns nothing of the disk.
func TestAnswersAreNew(t *testing.T) {
	d := New(1000)
	write(t, d, "a", "first")
	ok(t, d.Append("a", []byte("second")), d.Append("a", []byte("!")))
	write(t, d, "b", "B")
	b, _ := d.Read("a")
	_ = append(b, "garbage"...)
	copy(b, "*****")
	for _, b := range d.Each() {
		_ = append(b, "garbage"...)
		b[0] = '*'
	}
	names := d.List()
	names[0] = "z"
	has(t, d, "a=firstsecond!", "b=B")
	ok(t, d.Append("a", []byte("?")))
	has(t, d, "a=firstsecond!?", "b=B")
	before, _ := d.Read("a")
	d.Turn("a", 0, 1)
	if string(before) != "firstsecond!?" {
		t.Errorf("turned: %q", before)
	}
}

// P4.3: the names rise by their bytes.
func TestOrder(t *testing.T) {
	d := New(100)
	rising := []string{"-", "-a", ".", ".-", "0", "00", "1", "10", "9", "_", "a", "a-", "a.tmp", "a0", "a_", "aa", "b", "z", "zz"}
	for i := range rising {
		name := rising[i*7%len(rising)]
		write(t, d, name, name)
	}
	if l := d.List(); !slices.Equal(l, rising) {
		t.Error(l)
	}
	i := 0
	for name, b := range d.Each() {
		if name != rising[i] || string(b) != name {
			t.Errorf("%q=%q at %d", name, b, i)
		}
		i++
	}
	if i != len(rising) {
		t.Error(i)
	}
}

// P4.3: a loop tells names and bytes as they were when it began, whatever it does; another one tells what came of it.
func TestEachWhileTurned(t *testing.T) {
	d := New(1000)
	for _, name := range []string{"a", "b", "c", "d"} {
		write(t, d, name, name+"123")
	}
	ok(t, d.SyncDir(), d.Append("a", []byte("45")), d.Sync("b"))
	loop := d.Each()
	write(t, d, "e", "E")
	var seen []string
	for name, b := range loop {
		seen = append(seen, name+"="+string(b))
		switch len(seen) {
		case 1:
			ok(t, d.Append("b", []byte("more")), d.Remove("c"), d.Rename("e", "f"), d.Create("0"))
			if !d.Turn("d", 0, 1) {
				t.Fatal("isn't turned")
			}
		case 2:
			d.Crash(api.Loss{})
			ok(t, d.Append("d", []byte("new")), d.Append("a", []byte("xyz")))
		}
	}
	if want := []string{"a=a12345", "b=b123", "c=c123", "d=d123", "e=E"}; !slices.Equal(seen, want) {
		t.Errorf("%q; want %q", seen, want)
	}
	has(t, d, "a=xyz", "b=b123", "c=", "d=new")
	seen = nil
	for name := range loop {
		seen = append(seen, name)
	}
	if !slices.Equal(seen, []string{"a", "b", "c", "d"}) {
		t.Error(seen)
	}
}

// P4.3: a loop may be left, and stand within another one.
func TestEachLeft(t *testing.T) {
	d := New(100)
	for _, name := range []string{"a", "b", "c"} {
		write(t, d, name, name)
	}
	for stop := range 4 {
		n := 0
		for range d.Each() {
			if n == stop {
				break
			}
			n++
		}
		if n != min(stop, 3) {
			t.Error(stop, n)
		}
	}
	pairs := 0
	for a := range d.Each() {
		for b := range d.Each() {
			if a < b {
				pairs++
			}
		}
	}
	if pairs != 3 {
		t.Error(pairs)
	}
}

// P4.4: the room from now on; what is there stays, and nothing is appended till there is room, not even no bytes.
func TestQuota(t *testing.T) {
	d := New(3)
	write(t, d, "a", "123")
	is(t, d.Append("a", []byte("4")), api.ErrFull)
	d.Quota(5)
	ok(t, d.Append("a", []byte("45")), d.Append("a", nil))
	is(t, d.Append("a", []byte("6")), api.ErrFull)
	for _, n := range []int{4, 0, -1, math.MinInt} {
		d.Quota(n)
		is(t, d.Append("a", nil), api.ErrFull)
		has(t, d, "a=12345")
	}
	ok(t, d.Create("b"), d.Rename("b", "c"), d.Sync("a"), d.Remove("a"))
	ok(t, d.Append("c", nil))
	is(t, d.Append("c", []byte("1")), api.ErrFull)
	d.Quota(math.MaxInt)
	ok(t, d.Append("c", []byte("1")))
}

// P4.4: Full is whether there was an ErrFull since New, Quota or Crash, and nothing else turns it.
func TestFull(t *testing.T) {
	d := New(3)
	write(t, d, "a", "123")
	is(t, d.Append("a", make([]byte, api.MaxFile)), api.ErrBig)
	is(t, d.Append("b", []byte("4")), api.ErrNone)
	if d.Full() {
		t.Error("full of nothing")
	}
	fill := func() {
		t.Helper()
		is(t, d.Append("a", []byte("4")), api.ErrFull)
		if !d.Full() {
			t.Fatal("isn't full")
		}
	}
	fill()
	ok(t, d.Create("b"), d.Sync("a"), d.SyncDir(), d.Remove("b"), d.Append("a", nil))
	if !d.Full() || !d.Clone().Full() {
		t.Error("forgotten")
	}
	d.Quota(3)
	if d.Full() {
		t.Error("full behind Quota")
	}
	fill()
	d.Stop(0)
	is(t, d.Sync("a"), api.ErrDown)
	if !d.Full() {
		t.Error("forgotten where the power went")
	}
	d.Crash(api.Loss{})
	if d.Full() {
		t.Error("full behind Crash")
	}
	fill()
}

// sixCalls are one of each of the six, each with a name that is there.
func sixCalls() []call {
	return []call{{kind: "Create", name: "n"}, {kind: "Append", name: "a", data: "x"}, {kind: "Sync", name: "a"}, {kind: "SyncDir"}, {kind: "Rename", name: "a", to: "b"}, {kind: "Remove", name: "b"}}
}

// P4.2, P4.5: the power goes at the call with just k of the six ahead of it: that one does nothing, nor do those behind it, till there is a Crash.
func TestStop(t *testing.T) {
	for k := range 9 {
		d, m := New(100), newModel(100)
		ok(t, d.Create("a"), call{kind: "Create", name: "a"}.ofModel(m))
		d.Stop(k)
		m.stop = k
		for i, c := range sixCalls() {
			err, want := c.of(d), c.ofModel(m)
			is(t, err, want)
			if down := i >= k; down != (err == api.ErrDown) || d.Off() != down || d.Calls() != 2+min(i, k) {
				t.Fatalf("Stop(%d): call %d is %d; Off %t, Calls %d", k, i, err, d.Off(), d.Calls())
			}
			alike(t, d, m)
		}
		d.Crash(api.Loss{})
		if d.Off() || d.Calls() != 1+min(k+1, 6) {
			t.Fatalf("behind a crash: Off %t, Calls %d", d.Off(), d.Calls())
		}
		for range 20 {
			ok(t, d.Create("z"))
		}
	}
}

// P4.2, P4.5: calls with an error count like others; the power is asked for ahead of names.
func TestStopAtErrors(t *testing.T) {
	wrong := []call{{kind: "Create", name: "A"}, {kind: "Append", name: "none"}, {kind: "Append", name: ""}, {kind: "Sync", name: "none"}, {kind: "Rename", name: "a", to: "A"}, {kind: "Remove", name: "none"}, {kind: "Append", name: "a", data: "more than there is room"}}
	for k := range len(wrong) {
		d := New(3)
		write(t, d, "a", "1")
		d.Stop(k)
		for i, c := range wrong {
			if err := c.of(d); (err == api.ErrDown) != (i >= k) || err == api.OK {
				t.Fatalf("Stop(%d): %s = %d", k, c, err)
			}
		}
		if !d.Off() || d.Calls() != 2+k+1 {
			t.Fatalf("Stop(%d): Off %t, Calls %d", k, d.Off(), d.Calls())
		}
		if d.Full() {
			t.Fatal("full without power")
		}
		has(t, d, "a=1")
	}
}

// P4.5: from now on: the last Stop holds; below 0 there is none; nothing but the six counts.
func TestStopAgain(t *testing.T) {
	d := New(100)
	write(t, d, "a", "1")
	d.Stop(0)
	d.Stop(2)
	ok(t, d.Sync("a"))
	d.Read("a")
	d.List()
	d.Used()
	d.Quota(50)
	d.Turn("a", 0, 0)
	Same(d, d.Clone())
	ok(t, d.Sync("a"))
	d.Stop(1)
	ok(t, d.Sync("a"))
	for _, k := range []int{-1, -2, math.MinInt} {
		d.Stop(0)
		d.Stop(k)
		for range 5 {
			ok(t, d.Sync("a"))
		}
	}
	d.Stop(math.MaxInt)
	ok(t, d.Sync("a"))
	d.Stop(0)
	is(t, d.Sync("a"), api.ErrDown)
	for _, k := range []int{-1, 5} {
		d.Stop(k)
		if !d.Off() || d.Sync("a") != api.ErrDown {
			t.Fatal("Stop brought the power back")
		}
	}
	d.Crash(api.Loss{})
	d.Stop(0)
	d.Crash(api.Loss{})
	ok(t, d.SyncDir(), d.SyncDir())
}

// P4.3, P4.5: without power all is still told, as it is; just the six do nothing.
func TestWithoutPower(t *testing.T) {
	d := New(100)
	write(t, d, "a", "one")
	write(t, d, "b", "two")
	d.Stop(0)
	for range 2 {
		for _, c := range sixCalls() {
			is(t, c.of(d), api.ErrDown)
		}
		for _, name := range wrongNames() {
			is(t, d.Create(name), api.ErrDown)
			is(t, d.Rename(name, name), api.ErrDown)
		}
	}
	if !d.Off() || d.Calls() != 5 {
		t.Error(d.Off(), d.Calls())
	}
	has(t, d, "a=one", "b=two")
	if !d.Turn("a", 0, 'o'^'O') {
		t.Error("isn't turned without power")
	}
	has(t, d, "a=One", "b=two")
	c := d.Clone()
	if !c.Off() || !Same(c, d) {
		t.Error("the clone isn't as the disk")
	}
	c.Crash(api.Loss{})
	if c.Off() || !d.Off() {
		t.Error("the clone doesn't go on alone")
	}
}

// P4.7: calls of a nil Disk.
func TestNil(t *testing.T) {
	var d *Disk
	for range 2 {
		for _, c := range sixCalls() {
			is(t, c.of(d), api.ErrDown)
		}
		is(t, d.Create("A"), api.ErrDown)
		is(t, d.Append("a", make([]byte, 1<<21)), api.ErrDown)
		has(t, d)
		if b, err := d.Read("a"); len(b) != 0 || err != api.ErrNone {
			t.Errorf("%q, %d", b, err)
		}
		d.Quota(5)
		d.Stop(3)
		d.Crash(api.Loss{Dir: 1, Keep: []int{1}})
		if !d.Off() || d.Full() || d.Calls() != 0 || d.Turn("a", 0, 1) || d.Turn("", 0, 0) || d.Clone() != nil {
			t.Error("of a nil disk")
		}
	}
	if !Same(nil, nil) || !Same(d, d.Clone()) || Same(d, New(0)) || Same(New(0), d) {
		t.Error("Same of nil")
	}
}
