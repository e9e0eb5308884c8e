package digest

import (
	"bytes"
	"crypto/sha256"
	"encoding/hex"
	"math/big"
	"strings"
	"testing"
)

// fraction are the first 32 bits of the fraction of p's root of that degree, found by whole numbers alone.
func fraction(p int64, degree uint) uint32 {
	whole := new(big.Int).Lsh(big.NewInt(p), 32*degree)
	low, high := big.NewInt(0), new(big.Int).Lsh(big.NewInt(p), 32) // low's power isn't above whole, high's is
	for new(big.Int).Sub(high, low).Cmp(big.NewInt(1)) > 0 {
		mid := new(big.Int).Rsh(new(big.Int).Add(low, high), 1)
		if new(big.Int).Exp(mid, big.NewInt(int64(degree)), nil).Cmp(whole) > 0 {
			high = mid
		} else {
			low = mid
		}
	}
	return uint32(low.Uint64())
}

func primes(n int) []int64 {
	var l []int64
	for p := int64(2); len(l) < n; p++ {
		if big.NewInt(p).ProbablyPrime(0) {
			l = append(l, p)
		}
	}
	return l
}

// P2.2: at first the sum's words are of square roots, k(t) are of cube roots.
func TestRoots(t *testing.T) {
	l := primes(64)
	for i, x := range start() {
		if want := fraction(l[i], 2); x != want {
			t.Errorf("the sum's word %d = %08x; want %08x", i, x, want)
		}
	}
	for i, x := range roots {
		if want := fraction(l[i], 3); x != want {
			t.Errorf("k(%d) = %08x; want %08x", i, x, want)
		}
	}
}

// known are texts and their sums, as they are known elsewhere.
func known() map[string]string {
	return map[string]string{
		"":    "e3b0c44298fc1c149afbf4c8996fb92427ae41e4649b934ca495991b7852b855",
		"abc": "ba7816bf8f01cfea414140de5dae2223b00361a396177a9cb410ff61f20015ad",
		"abcdbcdecdefdefgefghfghighijhijkijkljklmklmnlmnomnopnopq":                                                         "248d6a61d20638b8e5c026930c3e6039a33ce45964ff2167f6ecedd419db06c1",
		"abcdefghbcdefghicdefghijdefghijkefghijklfghijklmghijklmnhijklmnoijklmnopjklmnopqklmnopqrlmnopqrsmnopqrstnopqrstu": "cf5b16a778af8380036ce59e7b0492370b249b11e8f07a51afac45037afee9d1",
		"\xbd":                         "68325720aabd7c82f30f554b313d0570c95accbb7dc4b5aae11204c08ffe732b",
		strings.Repeat("a", 1_000_000): "cdc76e5c9914fb9281a1c7e284d73e67f1809a48a497200e046d39ccc7112cd0",
	}
}

// P2.2: sums that are known elsewhere.
func TestShaKnown(t *testing.T) {
	for text, want := range known() {
		if sum := Sha([]byte(text)); hex.EncodeToString(sum[:]) != want {
			t.Errorf("Sha of %d bytes = %x; want %s", len(text), sum, want)
		}
	}
	if Sha(nil) != Sha([]byte{}) {
		t.Error("nil and empty are two")
	}
}

// P2.2: lengths at and beside the ends of a block, against the library's sum.
func TestShaOfLengths(t *testing.T) {
	b := many(1<<17 + 64)
	for _, n := range lengths() {
		if sum := Sha(b[:n]); sum != sha256.Sum256(b[:n]) {
			t.Fatalf("Sha of %d bytes = %x; want %x", n, sum, sha256.Sum256(b[:n]))
		}
	}
	for i := range 256 {
		for _, n := range []int{1, 55, 56, 64, 65} {
			if same := bytes.Repeat([]byte{byte(i)}, n); Sha(same) != sha256.Sum256(same) {
				t.Fatalf("Sha of %d bytes %d = %x", n, i, Sha(same))
			}
		}
	}
}

// P2.2: a byte 128, as few bytes 0 as make 56 modulo 64, and all eight bytes of the number of bits.
func TestTail(t *testing.T) {
	for _, c := range []struct {
		rest, nought int
		n            int
		long         string
	}{
		{0, 55, 0, "0000000000000000"}, {1, 54, 1, "0000000000000008"}, {55, 0, 55, "00000000000001b8"},
		{56, 63, 56, "00000000000001c0"}, {63, 56, 63, "00000000000001f8"}, {0, 55, 64, "0000000000000200"},
		{31, 24, 1<<24 + 31, "00000000080000f8"}, {0, 55, 1 << 29, "0000000100000000"}, {63, 56, 1<<31 - 1, "00000003fffffff8"},
	} {
		rest := many(c.rest)
		want := append(append(bytes.Clone(rest), 128), make([]byte, c.nought)...)
		long, _ := hex.DecodeString(c.long)
		if out := tail(rest, c.n); !bytes.Equal(out, append(want, long...)) {
			t.Errorf("tail of %d bytes = %x", c.n, out)
		}
	}
}

// P2.2: more bits than one word counts.
func TestShaOfVeryMany(t *testing.T) {
	if testing.Short() {
		t.Skip("takes seconds")
	}
	piece := many(1<<20 + 1)
	h, want := New(), sha256.New()
	for h.Len() <= 1<<29 {
		h.Add(piece)
		want.Write(piece)
	}
	if sum := h.Sum(); !bytes.Equal(sum[:], want.Sum(nil)) {
		t.Errorf("Sum of %d bytes = %x; want %x", h.Len(), sum, want.Sum(nil))
	}
}

// What is handed in stays as it is, its spare room included; an answer is one's own.
func TestShaTurnsNothing(t *testing.T) {
	room := many(300)
	for n := range 200 {
		one := Sha(room[:n])
		name := Name(room[:n])
		one[0]++
		if two := Sha(room[:n]); two != sha256.Sum256(room[:n]) || Name(room[:n]) != name {
			t.Fatalf("Sha of %d bytes again = %x", n, two)
		}
	}
	if !bytes.Equal(room, many(300)) {
		t.Error("what was handed in is turned")
	}
}
