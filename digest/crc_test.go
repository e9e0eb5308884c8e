package digest

import (
	"bytes"
	"hash/crc32"
	"math"
	"strings"
	"testing"
)

// many are n bytes all over the range, the same ones at each call.
func many(n int) []byte {
	b := make([]byte, n)
	x := uint64(88172645463325252)
	for i := range b {
		x ^= x << 13
		x ^= x >> 7
		x ^= x << 17
		b[i] = byte(x >> 32)
	}
	return b
}

// lengths are those at and beside the ends of a block, of the bytes that its last part has room for, and some greater ones.
func lengths() []int {
	var l []int
	for n := range 4*64 + 3 {
		l = append(l, n)
	}
	for _, n := range []int{512, 1024, 4096, 65536, 1 << 17} {
		l = append(l, n-9, n-8, n-1, n, n+1, n+55, n+56, n+63)
	}
	return l
}

// register is P2.1 by its words, with the register's bits one by one, the lowest first.
func register(sum uint32, b []byte) uint32 {
	var reg, poly [32]bool
	for i := range 32 {
		reg[i] = sum>>uint(i)&1 == 0 // turned
		poly[i] = uint32(0xEDB88320)>>uint(i)&1 == 1
	}
	for _, x := range b {
		for i := range 8 {
			out := reg[0] != (x>>uint(i)&1 == 1)
			copy(reg[:], reg[1:])
			reg[31] = false
			for j := range 32 {
				reg[j] = reg[j] != (out && poly[j])
			}
		}
	}
	n := uint32(0)
	for i := range 32 {
		if !reg[i] {
			n |= 1 << uint(i)
		}
	}
	return n
}

// P2.1: sums that are known elsewhere, the chapter's example first.
func TestCrcKnown(t *testing.T) {
	for _, c := range []struct {
		text string
		want uint32
	}{
		{"123456789", 0xCBF43926}, {"", 0}, {"a", 0xE8B7BE43}, {"abc", 0x352441C2}, {"\x00", 0xD202EF8D}, {"\xff", 0xFF000000},
		{strings.Repeat("\x00", 32), 0x190A55AD}, {strings.Repeat("\xff", 32), 0xFF6CAB0B}, {"\xff\xff\xff\xff", 0xFFFFFFFF},
		{"The quick brown fox jumps over the lazy dog", 0x414FA339},
	} {
		if sum := Crc([]byte(c.text)); sum != c.want {
			t.Errorf("Crc(%q) = %08X; want %08X", c.text, sum, c.want)
		}
		if sum := More(0, []byte(c.text)); sum != c.want {
			t.Errorf("More(0, %q) = %08X; want %08X", c.text, sum, c.want)
		}
	}
}

// P2.1: no bytes at all.
func TestCrcOfNone(t *testing.T) {
	if Crc(nil) != 0 || Crc([]byte{}) != 0 {
		t.Error(Crc(nil), Crc([]byte{}))
	}
	for _, sum := range []uint32{0, 1, 2, 0x80000000, 0xEDB88320, 0xCBF43926, math.MaxUint32} {
		if More(sum, nil) != sum || More(sum, []byte{}) != sum {
			t.Errorf("More(%08X, none) = %08X, %08X", sum, More(sum, nil), More(sum, []byte{}))
		}
	}
}

// P2.1: each byte behind each of some sums, by the promise's own words.
func TestMoreByBits(t *testing.T) {
	for _, sum := range []uint32{0, 1, 0xFF, 0x100, 0x7FFFFFFF, 0x80000000, 0xEDB88320, 0x12477CDF, 0xCBF43926, math.MaxUint32} {
		for i := range 256 {
			b := []byte{byte(i)}
			if n := More(sum, b); n != register(sum, b) {
				t.Fatalf("More(%08X, %x) = %08X; want %08X", sum, b, n, register(sum, b))
			}
		}
		for _, n := range []int{2, 3, 4, 5, 9, 100} {
			if b := many(n); More(sum, b) != register(sum, b) {
				t.Fatalf("More(%08X, %x) = %08X; want %08X", sum, b, More(sum, b), register(sum, b))
			}
		}
	}
}

// P2.1: bytes of any lengths, against the library's sum.
func TestCrcOfLengths(t *testing.T) {
	b := many(1<<17 + 64)
	for _, n := range lengths() {
		if sum := Crc(b[:n]); sum != crc32.ChecksumIEEE(b[:n]) {
			t.Fatalf("Crc of %d bytes = %08X; want %08X", n, sum, crc32.ChecksumIEEE(b[:n]))
		}
	}
}

// P2.1, P2.4: More(Crc(a), b) is Crc of a with b behind it, wherever it is cut, and in however many pieces.
func TestCrcOfPieces(t *testing.T) {
	b := many(200)
	want := crc32.ChecksumIEEE(b)
	for i := range len(b) + 1 {
		if sum := More(Crc(b[:i]), b[i:]); sum != want {
			t.Fatalf("cut at %d: %08X; want %08X", i, sum, want)
		}
	}
	for step := 1; step < 70; step++ {
		sum := uint32(0)
		for rest := b; len(rest) > 0; {
			n := min(step, len(rest))
			sum = More(sum, rest[:n])
			sum = More(sum, rest[:0])
			rest = rest[n:]
		}
		if sum != want {
			t.Fatalf("in pieces of %d: %08X; want %08X", step, sum, want)
		}
	}
}

// What is handed in stays as it is, its spare room included.
func TestCrcTurnsNothing(t *testing.T) {
	room := many(100)
	Crc(room[:50])
	More(7, room[20:50])
	if !bytes.Equal(room, many(100)) {
		t.Error("what was handed in is turned")
	}
}
