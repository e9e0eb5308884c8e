package wal

import (
	"fmt"
	"math"
	"slices"
	"strings"
	"testing"

	"brazier/api"
	"brazier/disk"
)

// ok fails where a call wasn't OK.
func ok(t *testing.T, errs ...api.Errno) {
	t.Helper()
	for i, err := range errs {
		if err != api.OK {
			t.Fatalf("call %d: %d", i, err)
		}
	}
}

// is fails where an error isn't the one that is asked for.
func is(t *testing.T, err, want api.Errno) {
	t.Helper()
	if err != want {
		t.Fatalf("error %d; want %d", err, want)
	}
}

// holds fails where a disk's files aren't just these: names and bytes in turn.
func holds(t *testing.T, d *disk.Disk, want ...string) {
	t.Helper()
	got := []string{}
	for name, b := range d.Each() {
		got = append(got, name, string(b))
	}
	if !slices.Equal(got, append([]string{}, want...)) {
		t.Fatalf("%.200q; want %.200q", got, want)
	}
}

// with is a disk with much room and a file of this name whose bytes and name are sure.
func with(t *testing.T, name string, b []byte) *disk.Disk {
	t.Helper()
	d := disk.New(1 << 24)
	ok(t, d.Create(name), d.Append(name, b), d.Sync(name), d.SyncDir())
	return d
}

// opened is the log "log" of a disk; it fails where this isn't opened with just these records.
func opened(t *testing.T, d *disk.Disk, want ...string) *Log {
	t.Helper()
	l, records, err := Open(d, "log")
	if err != api.OK || l == nil || !slices.Equal(texts(records), append([]string{}, want...)) {
		t.Fatalf("Open: %d, %.80q; want %.80q", err, records, want)
	}
	counted(t, l, want...)
	is(t, l.Bad(), api.OK)
	return l
}

// counted fails where a log doesn't count just as many records as these, and their frames' bytes.
func counted(t *testing.T, l *Log, want ...string) {
	t.Helper()
	if size := len(allFramed(want...)); l.Count() != len(want) || l.Size() != size {
		t.Fatalf("Count %d, Size %d; want %d, %d", l.Count(), l.Size(), len(want), size)
	}
}

// refused fails where Open isn't this error, without a log and records.
func refused(t *testing.T, d *disk.Disk, name string, want api.Errno) {
	t.Helper()
	l, records, err := Open(d, name)
	if err != want || l != nil || len(records) != 0 {
		t.Fatalf("Open(%q): %t, %d records, %d; want %d", name, l != nil, len(records), err, want)
	}
}

// badBy fails where a log isn't bad by this error: each of the three is it, at once.
func badBy(t *testing.T, d *disk.Disk, l *Log, want api.Errno) {
	t.Helper()
	calls, before, count, size := d.Calls(), d.Clone(), l.Count(), l.Size()
	is(t, l.Bad(), want)
	for range 2 {
		for _, err := range []api.Errno{l.Add([]byte("more")), l.Sync(), l.Reset(nil), l.Add(make([]byte, api.MaxText+1)), l.Reset([][]byte{make([]byte, api.MaxText+1)}), l.Bad()} {
			is(t, err, want)
		}
	}
	if d.Calls() != calls || !disk.Same(d, before) || l.Count() != count || l.Size() != size {
		t.Fatal("a bad log goes on")
	}
}

// lists is records of texts.
func lists(l ...string) [][]byte {
	var records [][]byte
	for _, s := range l {
		records = append(records, []byte(s))
	}
	return records
}

// step is one of a disk's calls.
type step func(d *disk.Disk) api.Errno

func creates(name string) step { return func(d *disk.Disk) api.Errno { return d.Create(name) } }

func appends(name string, b []byte) step {
	return func(d *disk.Disk) api.Errno { return d.Append(name, b) }
}

func syncs(name string) step { return func(d *disk.Disk) api.Errno { return d.Sync(name) } }

func renames(from, to string) step {
	return func(d *disk.Disk) api.Errno { return d.Rename(from, to) }
}

func removes(name string) step { return func(d *disk.Disk) api.Errno { return d.Remove(name) } }

func syncsDir(d *disk.Disk) api.Errno { return d.SyncDir() }

// losses are losses of some kinds.
func losses() []api.Loss {
	var l []api.Loss
	for _, keep := range [][]int{nil, {1}, {9, 0, 3}, {0, 12}, {math.MaxInt}} {
		for dir := range 4 {
			l = append(l, api.Loss{Dir: dir, Keep: keep})
		}
	}
	return l
}

// alike fails where two disks haven't the same files, as they are and behind losses.
func alike(t *testing.T, got, want *disk.Disk) {
	t.Helper()
	if !disk.Same(got, want) {
		t.Fatalf("%q; want %q", got.List(), want.List())
	}
	for _, l := range losses() {
		a, b := got.Clone(), want.Clone()
		a.Crash(l)
		b.Crash(l)
		if !disk.Same(a, b) {
			t.Fatalf("behind %v: %q; want %q", l, a.List(), b.List())
		}
	}
}

// takes fails where what is done isn't just these steps in their order, on a disk as base is: it is stopped at each of them. Its last step's error is what is answered.
func takes(t *testing.T, base *disk.Disk, do func(d *disk.Disk) api.Errno, steps ...step) {
	t.Helper()
	for k := range len(steps) + 2 {
		got, want := base.Clone(), base.Clone()
		got.Stop(k)
		err := do(got)
		last := api.OK
		for _, s := range steps[:min(k, len(steps))] {
			last = s(want)
		}
		if k < len(steps) {
			last = api.ErrDown
		}
		if err != last || got.Off() != (k < len(steps)) || got.Calls() != base.Calls()+min(k+1, len(steps)) {
			t.Fatalf("stopped at %d: %d, %d calls; want %d, %d", k, err, got.Calls()-base.Calls(), last, len(steps))
		}
		alike(t, got, want)
	}
}

// opens is Open's error alone.
func opens(name string) func(d *disk.Disk) api.Errno {
	return func(d *disk.Disk) api.Errno {
		_, _, err := Open(d, name)
		return err
	}
}

// P5.2: the name, and that with .tmp behind it, may be a file's; that is asked ahead of the power.
func TestOpenNames(t *testing.T) {
	long := strings.Repeat("a", api.MaxName)
	for _, name := range []string{"", "A", "a b", "log/", "é", long + "a", long, long[1:], long[2:], long[3:], "log\x00"} {
		d := disk.New(100)
		refused(t, d, name, api.ErrArg)
		refused(t, nil, name, api.ErrArg)
		if d.Calls() != 0 {
			t.Errorf("%q: the disk was called", name)
		}
		d.Stop(0)
		d.SyncDir()
		refused(t, d, name, api.ErrArg)
	}
	for _, name := range []string{long[4:], "a", ".", "log.tmp", "0-_"} {
		d := disk.New(100)
		l, records, err := Open(d, name)
		if l == nil || len(records) != 0 || err != api.OK {
			t.Fatalf("%q: %d", name, err)
		}
		ok(t, l.Add([]byte("x")), l.Reset(nil), l.Add([]byte("ab")))
		holds(t, d, name, string(allFramed("ab")))
	}
}

// P5.2: with power off, and of a nil disk.
func TestOpenDown(t *testing.T) {
	refused(t, nil, "log", api.ErrDown)
	for _, d := range []*disk.Disk{disk.New(100), with(t, "log", allFramed("ab")), with(t, "log", []byte("wrong"))} {
		before := d.Clone()
		d.Stop(0)
		d.SyncDir()
		refused(t, d, "log", api.ErrDown)
		alike(t, d, before)
	}
}

// P5.2: where there is no file, one is made, and is sure.
func TestOpenNew(t *testing.T) {
	d := disk.New(100)
	opened(t, d)
	holds(t, d, "log", "")
	d.Crash(api.Loss{})
	holds(t, d, "log", "")
	for _, base := range []*disk.Disk{disk.New(0), with(t, "other", []byte("wrong")), with(t, "log.tmp", allFramed("ab"))} {
		takes(t, base, opens("log"), creates("log"), syncsDir)
	}
}

// P5.2: of a file all of whose bytes are good nothing is turned.
func TestOpenGood(t *testing.T) {
	for _, words := range [][]string{nil, {""}, {"ab"}, {"", "cd", "", strings.Repeat("x", 1000)}, {strings.Repeat("y", api.MaxText)}} {
		d := with(t, "log", allFramed(words...))
		ok(t, d.Append("log", allFramed("unsure")))
		words = append(words, "unsure")
		opened(t, d, words...)
		takes(t, d, opens("log"))
		d.Stop(0) // no call is made, so it doesn't come
		opened(t, d, words...)
	}
}

// P5.2, P5.8: what stands behind whole frames goes: the file is written anew with the records that are good.
func TestOpenTorn(t *testing.T) {
	tails := []string{"\x00", "wrong", string(framed(3, []byte("abcd"))), string(allFramed("torn")[:11]), strings.Repeat("\x00", 50), "?" + string(allFramed("ab"))}
	for _, words := range [][]string{nil, {""}, {"ab", "", "cd"}} {
		for _, tail := range tails {
			d := with(t, "log", append(allFramed(words...), tail...))
			ok(t, d.Create("log.tmp"), d.Append("log.tmp", []byte("old")))
			steps := []step{creates("log.tmp")}
			for _, word := range words {
				steps = append(steps, appends("log.tmp", allFramed(word)))
			}
			steps = append(steps, syncs("log.tmp"), renames("log.tmp", "log"), syncsDir)
			takes(t, d, opens("log"), steps...)
			opened(t, d, words...)
			d.Crash(api.Loss{})
			holds(t, d, "log", string(allFramed(words...)))
			takes(t, d, opens("log"))
		}
	}
}

// P5.2: without room for the file anew the .tmp goes again, and the file stays.
func TestOpenFull(t *testing.T) {
	b := append(allFramed("ab", "cd"), "wrong"...)
	for room := range 20 {
		d := with(t, "log", b)
		d.Quota(len(b) + room)
		steps := []step{creates("log.tmp"), appends("log.tmp", allFramed("ab")), appends("log.tmp", allFramed("cd")), removes("log.tmp")}
		if room < 10 {
			steps = slices.Delete(steps, 2, 3)
		}
		for _, stop := range []int{-1, len(steps) - 1} {
			got, want := d.Clone(), d.Clone()
			got.Stop(stop)
			refused(t, got, "log", api.ErrFull)
			want.Stop(stop)
			for _, s := range steps {
				s(want)
			}
			alike(t, got, want)
			if !got.Full() || got.Calls() != want.Calls() {
				t.Error(got.Full(), got.Calls(), want.Calls())
			}
		}
		refused(t, d, "log", api.ErrFull)
		holds(t, d, "log", string(b))
		d.Quota(len(b) + 20)
		opened(t, d, "ab", "cd")
	}
}

// names fills a disk with files up to so many names.
func names(t *testing.T, d *disk.Disk, n int) {
	t.Helper()
	for i := range n - len(d.List()) {
		ok(t, d.Create(fmt.Sprint("other", i)))
	}
}

// P5.2: as many names as there may be: of no file, and where it is to be written anew.
func TestOpenBig(t *testing.T) {
	for _, d := range []*disk.Disk{disk.New(100), with(t, "log", append(allFramed("ab"), 1))} {
		names(t, d, api.MaxFiles)
		before := d.Clone()
		refused(t, d, "log", api.ErrBig)
		alike(t, d, before)
		ok(t, d.Remove("other0"))
		ok(t, opens("log")(d))
	}
}

// P5.2: the records that are told are new memory.
func TestOpenIsNew(t *testing.T) {
	d := with(t, "log", allFramed("ab", "cd"))
	_, records, _ := Open(d, "log")
	for i := range records {
		clear(records[i])
	}
	opened(t, d, "ab", "cd")
}

// P5.3, P5.6: what is added stands behind what is there, one Append each, and is found again.
func TestAdd(t *testing.T) {
	d := disk.New(1 << 20)
	l := opened(t, d)
	var words []string
	for _, word := range []string{"ab", "", "", "c", strings.Repeat("d", api.MaxText), "\x00"} {
		takes(t, d, func(d *disk.Disk) api.Errno { return opened(t, d, words...).Add([]byte(word)) }, appends("log", allFramed(word)))
		ok(t, l.Add([]byte(word)))
		words = append(words, word)
		counted(t, l, words...)
		holds(t, d, "log", string(allFramed(words...)))
		opened(t, d, words...)
	}
	ok(t, l.Add(nil))
	l = opened(t, d, append(words, "")...)
	ok(t, l.Add([]byte("behind")))
	opened(t, d, append(words, "", "behind")...)
}

// P5.3: what is added is neither turned nor kept.
func TestAddKeepsNothing(t *testing.T) {
	d := disk.New(1 << 20)
	l := opened(t, d)
	room := []byte("abcdefghijklmnop")
	ok(t, l.Add(room[:2]))
	if string(room) != "abcdefghijklmnop" {
		t.Fatalf("%q", room)
	}
	clear(room)
	ok(t, l.Add([]byte("x")))
	opened(t, d, "ab", "x")
}

// P5.3: Frame's error, with power or without, and the disk isn't called.
func TestAddBig(t *testing.T) {
	d := with(t, "log", allFramed("ab"))
	l := opened(t, d, "ab")
	calls := d.Calls()
	is(t, l.Add(make([]byte, api.MaxText+1)), api.ErrBig)
	if d.Calls() != calls {
		t.Error("the disk was called")
	}
	counted(t, l, "ab")
	ok(t, l.Bad(), l.Add([]byte("cd")), l.Sync())
	d.Stop(0)
	d.SyncDir()
	is(t, l.Add(make([]byte, api.MaxText+1)), api.ErrBig)
	ok(t, l.Bad())
	is(t, l.Add(nil), api.ErrDown)
	badBy(t, d, l, api.ErrDown)
}

// P5.3: a file that would be too great, and a disk without room: all is as it was, and the log goes on.
func TestAddFull(t *testing.T) {
	d := disk.New(1 << 21)
	l := opened(t, d)
	text := strings.Repeat("x", api.MaxText)
	var words []string
	for range 15 {
		ok(t, l.Add([]byte(text)))
		words = append(words, text)
	}
	left := api.MaxFile - l.Size()
	is(t, l.Add([]byte(text[:left-7])), api.ErrBig)
	counted(t, l, words...)
	ok(t, l.Bad())
	opened(t, d, words...)
	d.Quota(d.Used() + 9)
	is(t, l.Add([]byte("ab")), api.ErrFull)
	counted(t, l, words...)
	ok(t, l.Bad())
	opened(t, d, words...)
	ok(t, l.Add([]byte("c")), l.Sync())
	is(t, l.Add(nil), api.ErrFull)
	d.Quota(1 << 21)
	ok(t, l.Add([]byte(text[:left-9-8])), l.Sync())
	is(t, l.Add(nil), api.ErrBig)
	counted(t, l, append(words, "c", text[:left-9-8])...)
	opened(t, d, append(words, "c", text[:left-9-8])...)
}

// P5.3: Sync makes what is there sure.
func TestSync(t *testing.T) {
	d := disk.New(1 << 20)
	l := opened(t, d)
	takes(t, d, func(d *disk.Disk) api.Errno { return opened(t, d).Sync() }, syncs("log"))
	ok(t, l.Add([]byte("ab")), l.Add([]byte("cd")))
	takes(t, d, func(d *disk.Disk) api.Errno { return opened(t, d, "ab", "cd").Sync() }, syncs("log"))
	ok(t, l.Sync(), l.Add([]byte("ef")))
	counted(t, l, "ab", "cd", "ef")
	d.Crash(api.Loss{})
	opened(t, d, "ab", "cd")
}

// P5.3: an error of the disk makes the log bad, and it stays so, though the power comes back and all is there.
func TestBad(t *testing.T) {
	for _, do := range []func(l *Log) api.Errno{
		func(l *Log) api.Errno { return l.Add([]byte("cd")) },
		(*Log).Sync,
		func(l *Log) api.Errno { return l.Reset(lists("cd")) },
	} {
		d := with(t, "log", allFramed("ab"))
		l, other := opened(t, d, "ab"), opened(t, d, "ab")
		d.Stop(0)
		is(t, do(l), api.ErrDown)
		badBy(t, d, l, api.ErrDown)
		ok(t, other.Bad())
		d.Crash(api.Loss{})
		badBy(t, d, l, api.ErrDown)
		counted(t, l, "ab")
		opened(t, d, "ab")
		ok(t, other.Add([]byte("other")), other.Sync())
	}
}

// P5.3: an error that isn't the power's.
func TestBadWithoutFile(t *testing.T) {
	for _, do := range []func(l *Log) api.Errno{func(l *Log) api.Errno { return l.Add([]byte("cd")) }, (*Log).Sync} {
		d := with(t, "log", allFramed("ab"))
		l := opened(t, d, "ab")
		ok(t, d.Remove("log"), l.Bad())
		is(t, do(l), api.ErrNone)
		ok(t, d.Create("log"))
		badBy(t, d, l, api.ErrNone)
	}
}

// P5.4: the calls, one by one; then the log has these records, which are sure.
func TestReset(t *testing.T) {
	base := with(t, "log", allFramed("ab"))
	ok(t, base.Append("log", allFramed("unsure")), base.Create("log.tmp"), base.Append("log.tmp", []byte("old")))
	for _, words := range [][]string{nil, {""}, {"ab"}, {"cd", "", "ef", "ef"}, {strings.Repeat("x", api.MaxText), "y"}} {
		steps := []step{creates("log.tmp")}
		for _, word := range words {
			steps = append(steps, appends("log.tmp", allFramed(word)))
		}
		steps = append(steps, syncs("log.tmp"), renames("log.tmp", "log"), syncsDir)
		takes(t, base, func(d *disk.Disk) api.Errno { return opened(t, d, "ab", "unsure").Reset(lists(words...)) }, steps...)
		d := base.Clone()
		l := opened(t, d, "ab", "unsure")
		ok(t, l.Reset(lists(words...)))
		counted(t, l, words...)
		d.Crash(api.Loss{})
		holds(t, d, "log", string(allFramed(words...)))
		ok(t, l.Add([]byte("behind")), l.Sync())
		counted(t, l, append(words, "behind")...)
		opened(t, d, append(words, "behind")...)
	}
}

// P5.4: wherever it is broken off, the log is bad and counts what it had.
func TestResetDown(t *testing.T) {
	for k := range 6 {
		d := with(t, "log", allFramed("ab"))
		l := opened(t, d, "ab")
		d.Stop(k)
		is(t, l.Reset(lists("cd", "ef")), api.ErrDown)
		badBy(t, d, l, api.ErrDown)
		counted(t, l, "ab")
	}
}

// P5.4: Frame's error, wherever it stands, and nothing.
func TestResetOfBig(t *testing.T) {
	great := strings.Repeat("x", api.MaxText+1)
	for _, words := range [][]string{{great}, {"cd", great}, {great, "cd"}, {"cd", great, "ef"}} {
		d := with(t, "log", allFramed("ab"))
		l := opened(t, d, "ab")
		d.Stop(0)
		is(t, l.Reset(lists(words...)), api.ErrBig)
		if d.Off() {
			t.Fatal("the disk was called")
		}
		d.Stop(-1)
		ok(t, l.Bad())
		counted(t, l, "ab")
		ok(t, l.Add([]byte("cd")))
		opened(t, d, "ab", "cd")
	}
}

// P5.4: without room all is as it was, and the log goes on.
func TestResetFull(t *testing.T) {
	words := []string{"cd", "", "ef"}
	base := with(t, "log", allFramed("ab"))
	for room := range len(allFramed(words...)) {
		got, want := base.Clone(), base.Clone()
		got.Quota(base.Used() + room)
		want.Quota(base.Used() + room)
		l := opened(t, got, "ab")
		is(t, l.Reset(lists(words...)), api.ErrFull)
		ok(t, want.Create("log.tmp"))
		for _, word := range words {
			if want.Append("log.tmp", allFramed(word)) != api.OK {
				break
			}
		}
		ok(t, want.Remove("log.tmp"), l.Bad())
		alike(t, got, want)
		if got.Calls() != want.Calls() {
			t.Fatalf("room %d: %d calls; want %d", room, got.Calls(), want.Calls())
		}
		counted(t, l, "ab")
		ok(t, l.Sync(), l.Reset(nil), l.Add([]byte("cd")))
		opened(t, got, "cd")
	}
	base.Quota(base.Used() + len(allFramed(words...)))
	ok(t, opened(t, base, "ab").Reset(lists(words...)))
	opened(t, base, words...)
}

// P5.4: without room, and without power for the Remove: the log is bad.
func TestResetFullDown(t *testing.T) {
	b := allFramed("ab")
	d := with(t, "log", b)
	d.Quota(len(b) + 10)
	l := opened(t, d, "ab")
	d.Stop(3)
	is(t, l.Reset(lists("cd", "ef")), api.ErrFull)
	if !d.Off() {
		t.Fatal("the .tmp isn't removed at once")
	}
	holds(t, d, "log", string(b), "log.tmp", string(allFramed("cd")))
	counted(t, l, "ab")
	badBy(t, d, l, api.ErrDown)
	d.Crash(api.Loss{})
	badBy(t, d, l, api.ErrDown)
	opened(t, d, "ab")
}

// P5.3, P5.4: more frames than a file may have, and more names than a disk: errors of the disk in Reset.
func TestResetBig(t *testing.T) {
	text := strings.Repeat("x", api.MaxText)
	words := slices.Repeat([]string{text}, 15)
	left := api.MaxFile - len(allFramed(words...))
	d := with(t, "log", allFramed("ab"))
	l := opened(t, d, "ab")
	ok(t, l.Reset(lists(append(words, text[:left-8])...)), l.Bad())
	ok(t, l.Reset(lists("ab")))
	is(t, l.Reset(lists(append(words, text[:left-7])...)), api.ErrBig)
	badBy(t, d, l, api.ErrBig)
	counted(t, l, "ab")
	opened(t, d, "ab")
	d = with(t, "log", allFramed("ab"))
	names(t, d, api.MaxFiles)
	l = opened(t, d, "ab")
	is(t, l.Reset(nil), api.ErrBig)
	ok(t, d.Remove("other0"))
	badBy(t, d, l, api.ErrBig)
	opened(t, d, "ab")
}

// P5.4: what is handed in is neither turned nor kept.
func TestResetKeepsNothing(t *testing.T) {
	d := disk.New(1 << 20)
	l := opened(t, d)
	room := []byte("abcdefghijklmnop")
	records := [][]byte{room[:2], room[4:5], nil}
	ok(t, l.Reset(records[:2]))
	if string(room) != "abcdefghijklmnop" || len(records[0]) != 2 || len(records[1]) != 1 || records[2] != nil {
		t.Fatalf("%q, %q", room, records)
	}
	clear(room)
	clear(records)
	ok(t, l.Add([]byte("x")))
	opened(t, d, "ab", "e", "x")
}

// P5.5: of a nil log.
func TestNil(t *testing.T) {
	var l *Log
	for range 2 {
		for _, err := range []api.Errno{l.Add(nil), l.Add(make([]byte, api.MaxText+1)), l.Sync(), l.Reset(nil), l.Reset([][]byte{make([]byte, api.MaxText+1)}), l.Bad()} {
			is(t, err, api.ErrDown)
		}
		if l.Count() != 0 || l.Size() != 0 {
			t.Error(l.Count(), l.Size())
		}
	}
}

// P5.3: two logs of one disk have nothing to do with one another.
func TestTwoLogs(t *testing.T) {
	d := disk.New(1 << 20)
	a, _, errA := Open(d, "a")
	b, _, errB := Open(d, "b")
	ok(t, errA, errB, a.Add([]byte("one")), b.Add([]byte("two")), a.Add([]byte("three")), b.Reset(lists("four", "five", "six")))
	counted(t, a, "one", "three")
	counted(t, b, "four", "five", "six")
	holds(t, d, "a", string(allFramed("one", "three")), "b", string(allFramed("four", "five", "six")))
}
