package digest

import (
	"bytes"
	"crypto/sha256"
	"encoding/hex"
	"testing"
)

// P2.3: the chapter's example, and other names that are known elsewhere.
func TestNameKnown(t *testing.T) {
	name := Name([]byte("abc"))
	if len(name) != 64 || name[:8] != "ba7816bf" || name[56:] != "f20015ad" {
		t.Error(name)
	}
	for text, want := range known() {
		if name := Name([]byte(text)); name != want {
			t.Errorf("Name of %d bytes = %s; want %s", len(text), name, want)
		}
	}
	if Name(nil) != Name([]byte{}) {
		t.Error("nil and empty are two")
	}
}

// P2.3: two digits a byte, small letters, of the whole sum.
func TestNameOfLengths(t *testing.T) {
	b := many(200)
	for n := range len(b) {
		want := sha256.Sum256(b[:n])
		if name := Name(b[:n]); name != hex.EncodeToString(want[:]) {
			t.Fatalf("Name of %d bytes = %s; want %x", n, name, want)
		}
	}
}

// holds tells whether h has just these bytes.
func holds(t *testing.T, h *Hash, b []byte) {
	t.Helper()
	if h.Len() != len(b) {
		t.Fatalf("Len = %d; want %d", h.Len(), len(b))
	}
	if sum := h.Sum(); sum != sha256.Sum256(b) {
		t.Fatalf("Sum of %d bytes = %x; want %x", len(b), sum, sha256.Sum256(b))
	}
}

// P2.3: New is one without any, each time a new one.
func TestNew(t *testing.T) {
	one := New()
	if one == nil {
		t.Fatal("New is nil")
	}
	holds(t, one, nil)
	one.Add([]byte("abc"))
	holds(t, New(), nil)
	holds(t, one, []byte("abc"))
}

// P2.3: Add of no bytes changes nothing.
func TestAddOfNone(t *testing.T) {
	b := many(130)
	for _, n := range []int{0, 1, 63, 64, 65, 128, 130} {
		h := New()
		h.Add(nil)
		h.Add(b[:n])
		h.Add(nil)
		h.Add([]byte{})
		h.Add(b[n:n:n])
		holds(t, h, b[:n])
	}
}

// P2.3: Sum asked for in the midst, at each place and more than once, and more bytes behind it.
func TestSumGoesOn(t *testing.T) {
	b := many(300)
	h := New()
	for i := range b {
		holds(t, h, b[:i])
		holds(t, h, b[:i])
		h.Add(b[i : i+1])
	}
	holds(t, h, b)
	for i := range b {
		h := New()
		h.Add(b[:i])
		holds(t, h, b[:i])
		h.Add(b[i:])
		holds(t, h, b)
	}
}

// P2.3: of a nil Hash.
func TestNilHash(t *testing.T) {
	var h *Hash
	for _, b := range [][]byte{nil, {}, []byte("abc"), many(64), many(1000)} {
		h.Add(b)
		if h != nil || h.Len() != 0 || h.Sum() != sha256.Sum256(nil) {
			t.Fatalf("of %d bytes: %d, %x", len(b), h.Len(), h.Sum())
		}
	}
}

// P2.4: cut in two anywhere, and in three at and beside the ends of blocks.
func TestHashCut(t *testing.T) {
	b := many(200)
	want := Sha(b)
	for i := range len(b) + 1 {
		for _, j := range []int{0, 1, 55, 56, 63, 64, 65, 127, 128, 129, 191, 192, 193, 199, 200} {
			if j < i {
				continue
			}
			h := New()
			h.Add(b[:i])
			h.Add(b[i:j])
			h.Add(b[j:])
			if h.Len() != len(b) || h.Sum() != want {
				t.Fatalf("cut at %d and %d: %d, %x", i, j, h.Len(), h.Sum())
			}
		}
	}
}

// P2.4: pieces of one length, and of lengths all over.
func TestHashOfPieces(t *testing.T) {
	b := many(3000)
	for step := 1; step < 200; step++ {
		h := New()
		for rest := b; len(rest) > 0; {
			n := min(step, len(rest))
			h.Add(rest[:n])
			rest = rest[n:]
		}
		holds(t, h, b)
	}
	for _, most := range []int{2, 10, 64, 100, 256} {
		for from := range 200 {
			h := New()
			done := 0
			for i := from; done < len(b); i++ {
				n := min(int(b[i%len(b)])%most, len(b)-done)
				h.Add(b[done : done+n])
				done += n
			}
			holds(t, h, b)
		}
	}
}

// P2.4: the same bytes have the same sums, in however many ways they are asked for.
func TestSameSums(t *testing.T) {
	b := many(500)
	for _, n := range lengths() {
		if n > len(b) {
			continue
		}
		h := New()
		h.Add(b[:n])
		sum := Sha(b[:n])
		if h.Sum() != sum || Name(b[:n]) != hex.EncodeToString(sum[:]) || Crc(b[:n]) != More(0, b[:n]) {
			t.Fatalf("of %d bytes: %x, %x, %s", n, h.Sum(), sum, Name(b[:n]))
		}
	}
}

// What is handed in is neither changed nor kept, its spare room included.
func TestAddKeepsNothing(t *testing.T) {
	for _, n := range []int{1, 10, 63, 64, 65, 100, 128, 150} {
		for _, held := range []int{0, 1, 30, 63, 64} {
			room := many(400)
			was := bytes.Clone(room[:held+n])
			h := New()
			h.Add(room[:held])
			h.Add(room[held : held+n])
			h.Sum()
			if !bytes.Equal(room, many(400)) {
				t.Fatalf("%d bytes behind %d: what was handed in is turned", n, held)
			}
			clear(room)
			holds(t, h, was)
		}
	}
}

// Hashes that are filled in turn have nothing of one another.
func TestHashesApart(t *testing.T) {
	b := many(200)
	one, two := New(), New()
	for i := range 100 {
		one.Add(b[i : i+1])
		two.Add(b[100+i : 101+i])
		holds(t, one, b[:i+1])
		holds(t, two, b[100:101+i])
	}
	sum := one.Sum()
	clear(sum[:])
	holds(t, one, b[:100])
}
