package wal

import (
	"bytes"
	"encoding/binary"
	"fmt"
	"hash/crc32"
	"math"
	"math/rand"
	"slices"
	"testing"

	"brazier/api"
)

// framed is a frame of any length that is told, right or not, by the library's sum.
func framed(length uint32, b []byte) []byte {
	frame := binary.LittleEndian.AppendUint32(nil, length)
	frame = append(frame, b...)
	return binary.LittleEndian.AppendUint32(frame, crc32.ChecksumIEEE(frame))
}

// allFramed is the frames of these records, one behind the other.
func allFramed(records ...string) []byte {
	var b []byte
	for _, record := range records {
		b = append(b, framed(uint32(len(record)), []byte(record))...)
	}
	return b
}

// many is bytes of all kinds.
func many(n int) []byte {
	b := make([]byte, n)
	rand.New(rand.NewSource(5)).Read(b)
	return b
}

// texts is records as texts.
func texts(records [][]byte) []string {
	l := []string{}
	for _, record := range records {
		l = append(l, string(record))
	}
	return l
}

// parsed fails where Parse of b isn't just these records and so many bytes.
func parsed(t *testing.T, b []byte, good int, want ...string) {
	t.Helper()
	before := bytes.Clone(b)
	records, n := Parse(b)
	if n != good || !slices.Equal(texts(records), append([]string{}, want...)) {
		t.Fatalf("Parse of %d bytes: %d good ones, %d records %.80q; want %d, %.80q", len(b), n, len(records), records, good, want)
	}
	if !bytes.Equal(b, before) {
		t.Fatal("Parse turned its bytes")
	}
}

// P5.1: the chapter's example.
func TestExample(t *testing.T) {
	frame, err := Frame([]byte("ab"))
	if err != api.OK || len(frame) != 10 || !bytes.HasPrefix(frame, []byte{2, 0, 0, 0, 'a', 'b'}) {
		t.Fatalf("%x, %d", frame, err)
	}
	half, _ := Frame([]byte("cd"))
	parsed(t, append(frame, half[:5]...), 10, "ab")
}

// P5.1: a length, the bytes, a sum of both; the lowest bytes first.
func TestFrame(t *testing.T) {
	b := many(api.MaxText)
	for _, n := range []int{0, 1, 2, 3, 4, 7, 8, 127, 128, 255, 256, 257, 32767, 32768, 65535, 65536} {
		frame, err := Frame(b[:n])
		if err != api.OK || !bytes.Equal(frame, framed(uint32(n), b[:n])) {
			t.Errorf("Frame of %d bytes: %d, %.20x", n, err, frame)
		}
		parsed(t, frame, n+8, string(b[:n]))
	}
	if frame, err := Frame(nil); err != api.OK || !bytes.Equal(frame, framed(0, nil)) {
		t.Errorf("Frame of none: %x, %d", frame, err)
	}
}

// P5.1: no more than MaxText bytes.
func TestFrameBig(t *testing.T) {
	for _, n := range []int{api.MaxText + 1, api.MaxText + 2, 2 * api.MaxText, 1 << 20} {
		if frame, err := Frame(make([]byte, n)); err != api.ErrBig || len(frame) != 0 {
			t.Errorf("Frame of %d bytes: %d bytes, %d", n, len(frame), err)
		}
	}
}

// P5.1: a frame is new memory, and the room behind what is framed isn't used.
func TestFrameIsNew(t *testing.T) {
	room := []byte("abcdefghijklmnop")
	frame, _ := Frame(room[:3])
	if string(room) != "abcdefghijklmnop" {
		t.Errorf("%q", room)
	}
	room[0] = 'X'
	parsed(t, frame, 11, "abc")
	for i := range frame {
		frame[i] = 0
	}
	if string(room) != "Xbcdefghijklmnop" {
		t.Errorf("%q", room)
	}
}

// P5.1: nothing is no frame.
func TestParseOfNone(t *testing.T) {
	parsed(t, nil, 0)
	parsed(t, []byte{}, 0)
}

// P5.1: wherever frames are cut, those are told that are whole.
func TestParseCut(t *testing.T) {
	words := []string{"ab", "", "", "cdefghijkl", "\x00\x00\x00\x00", string(many(300)), "z"}
	b := allFramed(words...)
	whole, good := 0, 0
	for cut := range len(b) + 1 {
		if whole < len(words) && cut == good+8+len(words[whole]) {
			good = cut
			whole++
		}
		parsed(t, b[:cut], good, words[:whole]...)
		parsed(t, b[:cut:cut], good, words[:whole]...)
	}
	if whole != len(words) {
		t.Error(whole)
	}
}

// P5.1: a length from 0 to MaxText, whatever the sum says.
func TestParseLengths(t *testing.T) {
	b := many(api.MaxText + 2)
	ahead := allFramed("ab")
	for _, n := range []int{api.MaxText - 1, api.MaxText} {
		frame := framed(uint32(n), b[:n])
		parsed(t, append(ahead[:10:10], frame...), 18+n, "ab", string(b[:n]))
	}
	for _, n := range []int{api.MaxText + 1, api.MaxText + 2} {
		parsed(t, framed(uint32(n), b[:n]), 0)
		parsed(t, append(ahead[:10:10], framed(uint32(n), b[:n])...), 10, "ab")
	}
	for _, length := range []uint32{1, 2, 7, 65535, 65536, 65537, math.MaxInt32 - 8, math.MaxInt32, 1 << 31, 1<<31 + 4, math.MaxUint32 - 7, math.MaxUint32 - 3, math.MaxUint32} {
		parsed(t, append(ahead[:10:10], framed(length, nil)...), 10, "ab")
		if length != 7 {
			parsed(t, append(ahead[:10:10], framed(length, []byte("seven.."))...), 10, "ab")
		}
	}
}

// P5.1: a sum of all that is ahead of it, not of the bytes alone, and the lowest byte first.
func TestParseSums(t *testing.T) {
	frame := framed(3, []byte("abc"))
	parsed(t, frame, 11, "abc")
	wrong := [][]byte{
		binary.LittleEndian.AppendUint32(frame[:7:7], crc32.ChecksumIEEE([]byte("abc"))),
		binary.BigEndian.AppendUint32(frame[:7:7], crc32.ChecksumIEEE(frame[:7])),
		binary.LittleEndian.AppendUint32(frame[:7:7], ^crc32.ChecksumIEEE(frame[:7])),
		binary.LittleEndian.AppendUint32(frame[:7:7], 0),
		binary.LittleEndian.AppendUint32(frame[:7:7], math.MaxUint32),
		make([]byte, 8),
		make([]byte, 100),
		bytes.Repeat([]byte{255}, 100),
	}
	for _, b := range wrong {
		parsed(t, b, 0)
		parsed(t, append(allFramed("x", ""), b...), 17, "x", "")
	}
}

// P5.1: a frame one of whose bits is turned is none, and behind it nothing is told; those ahead stay.
func TestParseTurned(t *testing.T) {
	words := []string{"ab", "", "cde", string(many(50))}
	b := allFramed(words...)
	from := 0
	for i, word := range words {
		end := from + 8 + len(word)
		for bit := from * 8; bit < end*8; bit++ {
			turned := bytes.Clone(b)
			turned[bit/8] ^= 1 << (bit % 8)
			parsed(t, turned, from, words[:i]...)
		}
		from = end
	}
}

// P5.1: only frames from the front on: not one that stands a byte further.
func TestParseFromTheFront(t *testing.T) {
	b := allFramed("ab", "cd")
	parsed(t, append([]byte{0}, b...), 0)
	parsed(t, b[1:], 0)
	between := append(allFramed("ab"), 7)
	parsed(t, append(between, allFramed("cd")...), 10, "ab")
}

// P5.1: records are new memory, each for itself.
func TestParseIsNew(t *testing.T) {
	b := allFramed("ab", "", "cd")
	records, _ := Parse(b)
	for i := range records {
		records[i] = append(records[i], "......................"...)
	}
	parsed(t, b, 28, "ab", "", "cd")
	records, _ = Parse(b)
	clear(b)
	if !slices.Equal(texts(records), []string{"ab", "", "cd"}) {
		t.Errorf("%q", records)
	}
	records[0][0] = 'X'
	if string(records[2]) != "cd" {
		t.Errorf("%q", records)
	}
}

// P5.8: whatever stands behind whole frames, unless it is one, changes nothing of the records ahead.
func TestParseBehind(t *testing.T) {
	r := rand.New(rand.NewSource(58))
	for round := range 3000 {
		var words []string
		for range r.Intn(5) {
			words = append(words, string(many(r.Intn(40))))
		}
		b := allFramed(words...)
		tail := make([]byte, r.Intn(40))
		for i := range tail {
			tail[i] = byte(r.Intn(3) * r.Intn(100)) // often a small length
		}
		if round%3 == 0 { // a frame, but for its end
			tail = framed(uint32(len(tail)), tail)
			tail = tail[:r.Intn(len(tail))]
		}
		parsed(t, append(b[:len(b):len(b)], tail...), len(b), words...)
	}
}

// P5.1, P5.6: what is framed is parsed as the same, however much there is of it.
func TestParseMany(t *testing.T) {
	var words []string
	var b []byte
	for i := range 2000 {
		word := fmt.Sprint(i, string(many(i%70)))
		words = append(words, word)
		frame, err := Frame([]byte(word))
		if err != api.OK {
			t.Fatal(err)
		}
		b = append(b, frame...)
	}
	parsed(t, b, len(b), words...)
}
