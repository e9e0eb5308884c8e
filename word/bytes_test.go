package word

import (
	"bytes"
	"encoding/binary"
	"encoding/hex"
	"math"
	"strings"
	"testing"
)

// P1.4: b, and behind it the four bytes, the lowest first.
func TestPut(t *testing.T) {
	for _, c := range []struct {
		b    []byte
		n    int32
		want string
	}{
		{nil, 0, "00000000"}, {nil, 1, "01000000"}, {nil, -1, "ffffffff"}, {[]byte{}, 0x12345678, "78563412"},
		{[]byte{9, 8}, -2, "0908feffffff"}, {nil, math.MinInt32, "00000080"}, {nil, math.MaxInt32, "ffffff7f"},
		{[]byte{0, 0, 0, 0}, 256, "0000000000010000"}, {[]byte{7}, 1 << 24, "0700000001"}, {nil, 0x00ff0000, "0000ff00"},
	} {
		if out := Put(c.b, c.n); hex.EncodeToString(out) != c.want {
			t.Errorf("Put(%v, %d) = %x", c.b, c.n, out)
		}
	}
	for _, n := range append(edges(), many(500)...) {
		want := binary.LittleEndian.AppendUint32([]byte{5, 6, 7}, uint32(n))
		if out := Put([]byte{5, 6, 7}, n); !bytes.Equal(out, want) {
			t.Fatalf("Put(5 6 7, %d) = %x", n, out)
		}
	}
}

// P1.4: new memory: b stays as it is, its spare room too, and what is answered shares none with it.
func TestPutIsNew(t *testing.T) {
	room := []byte{1, 2, 3, 4, 5, 6, 7, 8, 9, 10}
	was := bytes.Clone(room)
	out := Put(room[:3], 0x7a7b7c7d)
	if !bytes.Equal(room, was) {
		t.Fatal("what was handed in is turned", room)
	}
	for i := range out {
		out[i] = 200
	}
	_ = append(out[:0], 99, 98, 97, 96, 95, 94, 93)
	if !bytes.Equal(room, was) {
		t.Fatal("the answer lies in what was handed in", room)
	}
	again := Put(room[:3], 1)
	room[0] = 77
	if !bytes.Equal(again, []byte{1, 2, 3, 1, 0, 0, 0}) {
		t.Fatal("what was handed in lies in the answer", again)
	}
	first := Put(room[:2], 1)
	_, _ = Put(first, 2), Put(first, 3)
	if two := Put(first, 2); !bytes.Equal(two, []byte{77, 2, 1, 0, 0, 0, 2, 0, 0, 0}) {
		t.Fatal(two)
	}
}

// P1.4: a word is there just if all four bytes stand in b.
func TestGet(t *testing.T) {
	b := []byte{0x78, 0x56, 0x34, 0x12, 0xff, 0xff, 0xff, 0xff, 0x80}
	for at, want := range map[int]int32{0: 0x12345678, 1: -0xedcbaa, 4: -1, 5: -0x7f000001} {
		if n, ok := Get(b, at); n != want || !ok {
			t.Errorf("Get(b, %d) = %#x, %v; want %#x", at, n, ok, want)
		}
	}
	for long := range len(b) + 1 {
		part := bytes.Clone(b[:long])
		for at := -6; at < 16; at++ {
			n, ok := Get(part, at)
			if may := at >= 0 && at+4 <= long; ok != may {
				t.Fatalf("Get(%x, %d) = %v", part, at, ok)
			} else if may && uint32(n) != binary.LittleEndian.Uint32(part[at:]) || !may && n != 0 {
				t.Fatalf("Get(%x, %d) = %#x", part, at, n)
			}
		}
		if !bytes.Equal(part, b[:long]) {
			t.Fatal("what was handed in is turned", part)
		}
	}
}

// P1.4: places that are far off, spare room, and no bytes at all.
func TestGetOfNone(t *testing.T) {
	room := []byte{1, 2, 3, 4, 5, 6, 7, 8}
	for _, c := range []struct {
		b  []byte
		at int
	}{
		{nil, 0}, {nil, -4}, {nil, math.MaxInt}, {[]byte{}, 0}, {room[:3], 0}, {room[:7], 4}, {room[:4], 1}, {room[4:7], 0},
		{room, 5}, {room, 8}, {room, -1}, {room, -4}, {room, math.MaxInt}, {room, math.MaxInt - 3}, {room, math.MaxInt - 4},
		{room, math.MinInt}, {room, math.MinInt + 3}, {room, 1 << 32}, {room, -1 << 32},
	} {
		if n, ok := Get(c.b, c.at); n != 0 || ok {
			t.Errorf("Get(%v, %d) = %d, %v", c.b, c.at, n, ok)
		}
	}
}

func allBytes() []byte {
	b := make([]byte, 256)
	for i := range b {
		b[i] = byte(i)
	}
	return b
}

// P1.4: two digits a byte, the higher one first, small letters.
func TestHex(t *testing.T) {
	for _, c := range []struct {
		b    []byte
		want string
	}{
		{nil, ""}, {[]byte{}, ""}, {[]byte{0}, "00"}, {[]byte{10, 255}, "0aff"}, {[]byte{0x9a, 0xbc, 0xde, 0xf0}, "9abcdef0"},
		{[]byte{0, 1, 16}, "000110"},
	} {
		if s := Hex(c.b); s != c.want {
			t.Errorf("Hex(%v) = %q", c.b, s)
		}
	}
	b := allBytes()
	if s := Hex(b); s != hex.EncodeToString(b) {
		t.Error(s)
	}
	if !bytes.Equal(b, allBytes()) {
		t.Error("what was handed in is turned")
	}
}

// P1.4: the bytes that Hex writes so.
func TestUnHex(t *testing.T) {
	for s, want := range map[string][]byte{
		"": nil, "00": {0}, "0aff": {10, 255}, "9abcdef0": {0x9a, 0xbc, 0xde, 0xf0}, "000110": {0, 1, 16},
	} {
		if b, ok := UnHex(s); !bytes.Equal(b, want) || !ok {
			t.Errorf("UnHex(%q) = %v, %v", s, b, ok)
		}
	}
}

// P1.4: of all texts of two bytes just those of two small digits are read.
func TestUnHexOfAllPairs(t *testing.T) {
	const small = "0123456789abcdef"
	for i := range 256 * 256 {
		s := string([]byte{byte(i >> 8), byte(i)})
		high, low := strings.IndexByte(small, s[0]), strings.IndexByte(small, s[1])
		b, ok := UnHex(s)
		if high < 0 || low < 0 {
			if ok || len(b) != 0 {
				t.Fatalf("UnHex(%q) = %v, %v", s, b, ok)
			}
		} else if !ok || len(b) != 1 || int(b[0]) != 16*high+low {
			t.Fatalf("UnHex(%q) = %v, %v", s, b, ok)
		}
	}
}

// P1.4: texts that Hex never writes; nothing of what was read ahead of the fault is answered.
func TestUnHexOfNone(t *testing.T) {
	for _, s := range []string{
		"0", "a", "000", "0aff0", "0AFF", "0aFF", "0aff0G", "0aff g", "0a ff", " 0aff", "0aff ", "0aff\n", "0x0a", "-1", "+1",
		"0aff0g", "0affg0", "g00aff", "0aff\x00\x00", "é", "00é", "０", "0a\xff\xff", "zz",
	} {
		if b, ok := UnHex(s); len(b) != 0 || ok {
			t.Errorf("UnHex(%q) = %v, %v", s, b, ok)
		}
	}
}

// P1.4: each answer is memory of its own.
func TestUnHexIsNew(t *testing.T) {
	one, _ := UnHex("0aff")
	one[0] = 1
	if two, ok := UnHex("0aff"); !bytes.Equal(two, []byte{10, 255}) || !ok {
		t.Error(two, ok)
	}
}

// P1.7: what Put and Hex write, Get and UnHex read as the same.
func TestBytesRead(t *testing.T) {
	var b []byte
	l := append(edges(), many(500)...)
	for _, n := range l {
		b = Put(b, n)
	}
	for i, want := range l {
		if n, ok := Get(b, 4*i); n != want || !ok {
			t.Fatalf("word %d: %d, %v; want %d", i, n, ok, want)
		}
	}
	b = append(b, allBytes()...)
	for _, from := range []int{0, 1, 7, len(b) - 1, len(b)} {
		if c, ok := UnHex(Hex(b[from:])); !bytes.Equal(c, b[from:]) || !ok {
			t.Fatalf("from %d on: %x, %v", from, c, ok)
		}
	}
}
