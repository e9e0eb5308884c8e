// Package sets is layer 3: see shared/doc/03-sets.md.
package sets

import (
	"iter"
	"math/bits"
	"slices"
)

// The numbers that can be in a Bits are those below most; each of its words stands for wide of them.
const (
	most = 1 << 16
	wide = 64
)

// Bits is a set of numbers.
type Bits struct {
	words []uint64 // n is in it if bit n%wide of word n/wide is 1; of words that aren't there none is
}

// Of: P3.1.
func Of(l ...int) *Bits {
	b := &Bits{}
	for _, n := range l {
		b.Put(n)
	}
	return b
}

// held is the words of b, for it to be asked: a nil one has none.
func (b *Bits) held() []uint64 {
	if b == nil {
		return nil
	}
	return b.words
}

// grow makes b at least so many words long.
func (b *Bits) grow(long int) {
	if more := long - len(b.words); more > 0 {
		b.words = append(b.words, make([]uint64, more)...)
	}
}

// Put: P3.1.
func (b *Bits) Put(n int) bool {
	if b == nil || n < 0 || n >= most || b.Has(n) {
		return false
	}
	b.grow(n/wide + 1)
	b.words[n/wide] |= 1 << (n % wide)
	return true
}

// Drop: P3.1.
func (b *Bits) Drop(n int) bool {
	if !b.Has(n) {
		return false
	}
	b.words[n/wide] &^= 1 << (n % wide)
	return true
}

// Has: P3.1.
func (b *Bits) Has(n int) bool {
	l := b.held()
	return n >= 0 && n/wide < len(l) && l[n/wide]>>(n%wide)&1 == 1
}

// Len: P3.1.
func (b *Bits) Len() int {
	n := 0
	for _, w := range b.held() {
		n += bits.OnesCount64(w)
	}
	return n
}

// Each: P3.1. The words are copied when the loop begins, not when it is asked for.
func (b *Bits) Each() iter.Seq[int] {
	return func(yield func(int) bool) {
		for i, w := range slices.Clone(b.held()) {
			for ; w != 0; w &= w - 1 { // the least bit goes
				if !yield(i*wide + bits.TrailingZeros64(w)) {
					return
				}
			}
		}
	}
}

// Join: P3.1.
func (b *Bits) Join(c *Bits) bool {
	if b == nil {
		return false
	}
	b.grow(len(c.held()))
	turned := false
	for i, w := range c.held() {
		turned = turned || w&^b.words[i] != 0
		b.words[i] |= w
	}
	return turned
}

// Minus: P3.1.
func (b *Bits) Minus(c *Bits) bool {
	mine, other := b.held(), c.held()
	turned := false
	for i := range min(len(mine), len(other)) {
		turned = turned || mine[i]&other[i] != 0
		mine[i] &^= other[i]
	}
	return turned
}

// Clone: P3.1.
func (b *Bits) Clone() *Bits { return &Bits{words: slices.Clone(b.held())} }

// Same: P3.1. One may have more words than the other, if nothing is in these.
func Same(a, b *Bits) bool {
	short, long := a.held(), b.held()
	if len(short) > len(long) {
		short, long = long, short
	}
	for _, w := range long[len(short):] {
		if w != 0 {
			return false
		}
	}
	return slices.Equal(short, long[:len(short)])
}
