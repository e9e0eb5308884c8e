package cas

import (
	"bytes"
	"crypto/sha256"
	"encoding/binary"
	"fmt"
	"hash/crc32"
	"math"
	"math/rand"
	"slices"
	"strings"
	"testing"

	"brazier/api"
	"brazier/disk"
)

// framed is a frame of any length that is told, by the library's sum.
func framed(length uint32, s string) string {
	b := binary.LittleEndian.AppendUint32(nil, length)
	b = append(b, s...)
	return string(binary.LittleEndian.AppendUint32(b, crc32.ChecksumIEEE(b)))
}

// frames is the frames of these records, one behind the other.
func frames(records ...string) string {
	all := ""
	for _, s := range records {
		all += framed(uint32(len(s)), s)
	}
	return all
}

// nameOf is a file's name by the library's sum.
func nameOf(key string, digits, slot int) string {
	return "c-" + fmt.Sprintf("%x", sha256.Sum256([]byte(key)))[:digits] + "-" + fmt.Sprint(slot)
}

// many is bytes of all kinds.
func many(n int) string {
	b := make([]byte, n)
	rand.New(rand.NewSource(6)).Read(b)
	return string(b)
}

// P6.1: two frames, one behind the other.
func TestEntry(t *testing.T) {
	words := []string{"", "k", "ab", "\x00\x00", many(300), many(api.MaxText - 1), many(api.MaxText)}
	for _, key := range words {
		for _, art := range words {
			b, err := Entry([]byte(key), []byte(art))
			if err != api.OK || string(b) != frames(key, art) {
				t.Fatalf("Entry of %d and %d bytes: %d, %.40x", len(key), len(art), err, b)
			}
			parsed(t, string(b), key, art)
		}
	}
	if b, err := Entry(nil, nil); err != api.OK || string(b) != frames("", "") {
		t.Errorf("%d, %x", err, b)
	}
}

// P6.1: neither has more than MaxText bytes.
func TestEntryBig(t *testing.T) {
	great, most := make([]byte, api.MaxText+1), make([]byte, api.MaxText)
	for _, l := range [][2][]byte{{great, nil}, {nil, great}, {great, great}, {most, great}, {great, most}, {make([]byte, 1<<20), nil}} {
		if b, err := Entry(l[0], l[1]); err != api.ErrBig || len(b) != 0 {
			t.Errorf("Entry of %d and %d bytes: %d, %d bytes", len(l[0]), len(l[1]), err, len(b))
		}
	}
}

// P6.1: an entry is new memory; what is handed in stays, the room behind it too.
func TestEntryIsNew(t *testing.T) {
	room := []byte("abcdefghijklmnopqrstuvwxyz")
	b, _ := Entry(room[:2], room[2:3])
	if string(room) != "abcdefghijklmnopqrstuvwxyz" {
		t.Errorf("%q", room)
	}
	clear(room)
	parsed(t, string(b), "ab", "c")
}

// parsed fails where Parse isn't just this.
func parsed(t *testing.T, b, key, art string) {
	t.Helper()
	gotKey, gotArt, ok := Parse([]byte(b))
	if !ok || string(gotKey) != key || string(gotArt) != art {
		t.Fatalf("Parse of %d bytes: %t, %.40q, %.40q; want %.40q, %.40q", len(b), ok, gotKey, gotArt, key, art)
	}
}

// unparsed fails where Parse finds an entry.
func unparsed(t *testing.T, b string) {
	t.Helper()
	if key, art, ok := Parse([]byte(b)); ok || len(key) != 0 || len(art) != 0 {
		t.Fatalf("Parse of %.80q: %t, %.40q, %.40q", b, ok, key, art)
	}
}

// P6.1: what is less than an entry, or more, is none.
func TestParse(t *testing.T) {
	whole := frames("key", "artefact")
	parsed(t, whole, "key", "artefact")
	parsed(t, frames("", ""), "", "")
	for n := range len(whole) {
		unparsed(t, whole[:n])
	}
	for _, tail := range []string{"\x00", "x", frames(""), frames("more"), whole, framed(9, "wrong"), strings.Repeat("\x00", 50)} {
		unparsed(t, whole+tail)
		unparsed(t, tail+whole)
	}
	unparsed(t, frames("key"))
	unparsed(t, frames("one", "two", "three"))
	unparsed(t, framed(4, "key")+frames("artefact"))
	unparsed(t, frames("key")+framed(1, ""))
	unparsed(t, framed(math.MaxUint32, "key")+frames("artefact"))
	great := many(api.MaxText + 1)
	unparsed(t, frames("key", great))
	unparsed(t, frames(great, "artefact"))
}

// P6.1: a byte that is turned is told by its frame's sum, wherever it stands.
func TestParseTurned(t *testing.T) {
	whole := []byte(frames("key", "artefact"))
	for at := range whole {
		for mask := 1; mask < 256; mask++ {
			b := bytes.Clone(whole)
			b[at] ^= byte(mask)
			unparsed(t, string(b))
		}
	}
}

// P6.1: key and artefact are new memory, and what is handed in stays.
func TestParseIsNew(t *testing.T) {
	b := []byte(frames("key", "artefact"))
	before := bytes.Clone(b)
	key, art, _ := Parse(b)
	if !bytes.Equal(b, before) {
		t.Fatal("Parse turned its bytes")
	}
	clear(b)
	if string(key) != "key" || string(art) != "artefact" {
		t.Fatalf("%q, %q", key, art)
	}
	_ = append(key, "more than there was"...)
	clear(key)
	if string(art) != "artefact" {
		t.Fatalf("%q", art)
	}
}

// P6.1: c-, the first digits of the key's sum, -, the slot.
func TestFileOf(t *testing.T) {
	if got := FileOf([]byte("abc"), 8, 3); got != "c-ba7816bf-3" {
		t.Error(got)
	}
	if got := FileOf([]byte("abc"), 0, 0); got != "c--0" {
		t.Error(got)
	}
	for _, key := range []string{"", "abc", "k1", many(200), many(api.MaxText), many(api.MaxText + 1)} {
		for digits := range 65 {
			for slot := range 8 {
				got := FileOf([]byte(key), digits, slot)
				if got != nameOf(key, digits, slot) || !disk.MayName(got) || !disk.MayName(got+".tmp") {
					t.Fatalf("FileOf(%.20q, %d, %d): %q", key, digits, slot, got)
				}
			}
		}
	}
}

// P6.1: no slot and no digits beyond those there are.
func TestFileOfNone(t *testing.T) {
	for _, wrong := range [][2]int{{-1, 0}, {65, 0}, {64, -1}, {64, 8}, {0, 8}, {0, -1}, {-1, -1}, {65, 8}, {66, 7}, {math.MinInt, 0}, {math.MaxInt, 0}, {0, math.MinInt}, {0, math.MaxInt}} {
		for _, key := range [][]byte{nil, []byte("abc")} {
			if got := FileOf(key, wrong[0], wrong[1]); got != "" {
				t.Errorf("FileOf(%q, %d, %d): %q", key, wrong[0], wrong[1], got)
			}
		}
	}
}

// P6.1: what is handed in stays.
func TestFileOfKeepsNothing(t *testing.T) {
	room := []byte("abcdefghijklmnop")
	FileOf(room[:3], 64, 7)
	if !slices.Equal(room, []byte("abcdefghijklmnop")) {
		t.Errorf("%q", room)
	}
}
