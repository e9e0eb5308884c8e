package wal

import (
	"fmt"
	"math"
	"math/rand"
	"slices"
	"testing"

	"brazier/api"
	"brazier/disk"
)

// story is a log and what may be found of it behind a loss.
type story struct {
	disk *disk.Disk
	log  *Log
	said []string // what was laid or added, in order
	sure int      // how many of these there were at the last Sync or Reset
	laid []string // what a Reset lays that was broken off
	torn bool     // was there one?
}

// act is something that is done with a log: Add, Sync or Reset of words.
type act struct {
	kind  string
	words []string
}

// of does it with a story's log, till the power goes.
func (a act) of(t *testing.T, s *story) {
	t.Helper()
	down := s.disk.Off()
	switch a.kind {
	case "add":
		for _, word := range a.words {
			if s.log.Add([]byte(word)) == api.OK {
				s.said = append(s.said, word)
			}
		}
	case "sync":
		if s.log.Sync() == api.OK {
			s.sure = len(s.said)
		}
	case "reset":
		if s.log.Reset(lists(a.words...)) == api.OK {
			s.said, s.sure = slices.Clone(a.words), len(a.words)
		} else if !down {
			s.laid, s.torn = a.words, true
		}
	}
	if (s.log.Bad() == api.ErrDown) != s.disk.Off() {
		t.Fatalf("%v: Bad is %d", a, s.log.Bad())
	}
}

// begun tells whether found is a beginning of all, with no less than so many.
func begun(found, all []string, sure int) bool {
	return len(found) >= sure && len(found) <= len(all) && slices.Equal(found, all[:len(found)])
}

// behind fails where Open, behind a loss, doesn't find what may be found; it tells what that is.
func (s *story) behind(t *testing.T, d *disk.Disk) []string {
	t.Helper()
	_, records, err := Open(d, "log")
	found := texts(records)
	if err != api.OK || !begun(found, s.said, s.sure) && !(s.torn && slices.Equal(found, s.laid)) {
		t.Fatalf("%d, %q; said %q, %d of them sure, laid %q", err, found, s.said, s.sure, s.laid)
	}
	return found
}

// again fails where recovery, broken off at any call and done again, doesn't find the same, and leave the same.
func again(t *testing.T, lost *disk.Disk, found []string) {
	t.Helper()
	whole := lost.Clone()
	opened(t, whole, found...)
	takes(t, whole, opens("log"))
	for k := 0; ; k++ {
		d := lost.Clone()
		d.Stop(k)
		if _, _, err := Open(d, "log"); err == api.OK {
			return
		}
		for _, l := range losses() {
			c := d.Clone()
			c.Crash(l)
			opened(t, c, found...)
			if _, err := c.Read("log.tmp"); err == api.OK { // what is left of writing anew is no part of the log
				ok(t, c.Remove("log.tmp"))
			}
			if got, want := c.Used(), len(allFramed(found...)); got != want {
				t.Fatalf("%d bytes; want %d", got, want)
			}
		}
	}
}

// many losses: of the directory's changes and of bytes, at each place of short frames.
func manyLosses() []api.Loss {
	var l []api.Loss
	for dir := range 5 {
		for keep := range 24 {
			l = append(l, api.Loss{Dir: dir, Keep: []int{keep}}, api.Loss{Dir: dir, Keep: []int{0, keep}}, api.Loss{Dir: dir, Keep: []int{keep, math.MaxInt}})
		}
	}
	return l
}

// P5.7: at whatever call the power goes, and whatever it leaves: a beginning, no less than was sure, a Reset whole or not at all; opened again, the same.
func TestAnyLoss(t *testing.T) {
	acts := []act{
		{"add", []string{"a"}}, {"sync", nil}, {"add", []string{"bc", ""}}, {"sync", nil}, {"add", []string{"d"}},
		{"reset", []string{"ef", "g"}}, {"add", []string{"h", "ij"}}, {"reset", nil}, {"add", []string{"k"}}, {"reset", []string{"l"}}, {"add", []string{"m"}},
	}
	ended := false
	for k := 0; !ended; k++ {
		d := disk.New(1 << 16)
		l := opened(t, d)
		s := &story{disk: d, log: l}
		d.Stop(k)
		for _, a := range acts {
			a.of(t, s)
		}
		ended = !d.Off()
		kinds := map[string]bool{} // what was found was told to recover well already
		for _, loss := range manyLosses() {
			c := d.Clone()
			c.Crash(loss)
			lost := c.Clone()
			found := s.behind(t, c)
			left, _ := lost.Read("log")
			if kind := fmt.Sprintf("%q %q", left, lost.List()); !kinds[kind] {
				kinds[kind] = true
				again(t, lost, found)
			}
		}
		if !ended && len(kinds) == 0 {
			t.Error(k)
		}
	}
}

// P5.7: of a new log, wherever the power goes while it is made.
func TestAnyLossOfNew(t *testing.T) {
	for k := range 3 {
		for _, loss := range manyLosses() {
			d := disk.New(100)
			d.Stop(k)
			_, _, err := Open(d, "log")
			is(t, err, []api.Errno{api.ErrDown, api.ErrDown, api.OK}[k])
			d.Crash(loss)
			lost := d.Clone()
			opened(t, d)
			again(t, lost, nil)
		}
	}
}

// P5.7: with so little room that all went into the file, a loss of what a Reset couldn't lay takes nothing of what was there.
func TestAnyLossWithoutRoom(t *testing.T) {
	for k := range 9 {
		for _, loss := range manyLosses() {
			d := disk.New(40)
			s := &story{disk: d, log: opened(t, d)}
			for _, a := range []act{{"add", []string{"a", "b"}}, {"sync", nil}, {"add", []string{"c"}}} {
				a.of(t, s)
			}
			d.Stop(k)
			for _, a := range []act{{"reset", []string{"d", "e"}}, {"add", []string{"more than there is room"}}, {"add", []string{"f"}}, {"sync", nil}} {
				a.of(t, s)
			}
			s.torn = false // it had no room, so none of it may be found
			d.Crash(loss)
			d.Quota(100)
			s.behind(t, d)
		}
	}
}

// anyAct is something that may be done.
func anyAct(r *rand.Rand) act {
	var words []string
	for range r.Intn(4) {
		words = append(words, string(many(r.Intn(30)))+fmt.Sprint(r.Intn(1000)))
	}
	return act{[]string{"add", "add", "add", "sync", "reset"}[r.Intn(5)], words}
}

// P5.6, P5.7: however often the power goes, and the log is opened again, with or without a loss.
func TestManyLosses(t *testing.T) {
	r := rand.New(rand.NewSource(57))
	rounds := 400
	if testing.Short() {
		rounds = 40
	}
	for range rounds {
		s := &story{disk: disk.New(1 << 20)}
		for range 8 {
			s.log, _, _ = Open(s.disk, "log")
			s.disk.Stop(r.Intn(25) - 1)
			for range r.Intn(12) {
				anyAct(r).of(t, s)
			}
			if r.Intn(4) > 0 || s.disk.Off() {
				s.disk.Crash(api.Loss{Dir: r.Intn(6), Keep: []int{r.Intn(60), r.Intn(60), r.Intn(60)}})
				again(t, s.disk.Clone(), s.behind(t, s.disk.Clone()))
				s.said = s.behind(t, s.disk)
				s.sure, s.laid, s.torn = len(s.said), nil, false
			}
			s.disk.Stop(-1)
			opened(t, s.disk, s.said...)
		}
	}
}

// P5.8: bytes that are turned behind whole frames change nothing of those ahead, and Open lays these down anew.
func TestTurned(t *testing.T) {
	words := []string{"ab", "", "cde", "f"}
	whole := allFramed(words...)
	for at := range whole {
		ahead := 0
		for len(allFramed(words[:ahead+1]...)) <= at {
			ahead++
		}
		for _, mask := range []byte{1, 128, 255} {
			d := with(t, "log", whole)
			if !d.Turn("log", at, mask) {
				t.Fatal(at)
			}
			lost := d.Clone()
			opened(t, d, words[:ahead]...)
			holds(t, d, "log", string(allFramed(words[:ahead]...)))
			again(t, lost, words[:ahead])
		}
	}
}
