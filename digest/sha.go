package digest

import "math/bits"

// A block's bytes, those of them that the length doesn't take in the last one, and how often a block is turned.
const (
	size   = 64
	before = 56
	rounds = 64
)

// The first 32 bits of the fractions of the cube roots of the first 64 primes.
var roots = [rounds]uint32{
	0x428a2f98, 0x71374491, 0xb5c0fbcf, 0xe9b5dba5, 0x3956c25b, 0x59f111f1, 0x923f82a4, 0xab1c5ed5,
	0xd807aa98, 0x12835b01, 0x243185be, 0x550c7dc3, 0x72be5d74, 0x80deb1fe, 0x9bdc06a7, 0xc19bf174,
	0xe49b69c1, 0xefbe4786, 0x0fc19dc6, 0x240ca1cc, 0x2de92c6f, 0x4a7484aa, 0x5cb0a9dc, 0x76f988da,
	0x983e5152, 0xa831c66d, 0xb00327c8, 0xbf597fc7, 0xc6e00bf3, 0xd5a79147, 0x06ca6351, 0x14292967,
	0x27b70a85, 0x2e1b2138, 0x4d2c6dfc, 0x53380d13, 0x650a7354, 0x766a0abb, 0x81c2c92e, 0x92722c85,
	0xa2bfe8a1, 0xa81a664b, 0xc24b8b70, 0xc76c51a3, 0xd192e819, 0xd6990624, 0xf40e3585, 0x106aa070,
	0x19a4c116, 0x1e376c08, 0x2748774c, 0x34b0bcb5, 0x391c0cb3, 0x4ed8aa4a, 0x5b9cca4f, 0x682e6ff3,
	0x748f82ee, 0x78a5636f, 0x84c87814, 0x8cc70208, 0x90befffa, 0xa4506ceb, 0xbef9a3f7, 0xc67178f2,
}

// start is the sum of no blocks: the first 32 bits of the fractions of the square roots of the first eight primes.
func start() [8]uint32 {
	return [8]uint32{
		0x6a09e667, 0xbb67ae85, 0x3c6ef372, 0xa54ff53a, 0x510e527f, 0x9b05688c, 0x1f83d9ab, 0x5be0cd19,
	}
}

// Sha: P2.2.
func Sha(b []byte) [32]byte {
	sum, rest := whole(start(), b)
	return end(sum, rest, len(b))
}

// whole takes b's whole blocks into the sum, and leaves what is behind them.
func whole(sum [8]uint32, b []byte) ([8]uint32, []byte) {
	for len(b) >= size {
		sum = mix(sum, b[:size:size])
		b = b[size:]
	}
	return sum, b
}

// end is the sum of all n bytes, of which rest are behind the last whole block.
func end(sum [8]uint32, rest []byte, n int) [32]byte {
	sum, _ = whole(sum, tail(rest, n))
	var out [32]byte
	for i, x := range sum {
		for j := range 4 {
			out[4*i+j] = byte(x >> (24 - 8*uint(j)))
		}
	}
	return out
}

// tail is rest, and what P2.2 lays behind all n bytes: one block, or two.
func tail(rest []byte, n int) []byte {
	out := make([]byte, 0, 2*size)
	out = append(out, rest...)
	out = append(out, 128)
	for len(out)%size != before {
		out = append(out, 0)
	}
	long := 8 * uint64(n)
	for i := range 8 {
		out = append(out, byte(long>>(56-8*uint(i))))
	}
	return out
}

// mix takes one block into the sum.
func mix(sum [8]uint32, block []byte) [8]uint32 {
	w := spread(block)
	a, b, c, d, e, f, g, h := sum[0], sum[1], sum[2], sum[3], sum[4], sum[5], sum[6], sum[7]
	for t := range rounds {
		t1 := h + (down(e, 6) ^ down(e, 11) ^ down(e, 25)) + (e&f ^ ^e&g) + roots[t] + w[t]
		t2 := (down(a, 2) ^ down(a, 13) ^ down(a, 22)) + (a&b ^ a&c ^ b&c)
		h, g, f, e, d, c, b, a = g, f, e, d+t1, c, b, a, t1+t2
	}
	for i, x := range [8]uint32{a, b, c, d, e, f, g, h} {
		sum[i] += x
	}
	return sum
}

// spread are a block's sixteen words, and those that they make.
func spread(block []byte) [rounds]uint32 {
	var w [rounds]uint32
	for i, x := range block {
		w[i/4] = w[i/4]<<8 | uint32(x)
	}
	for t := 16; t < rounds; t++ {
		s0 := down(w[t-15], 7) ^ down(w[t-15], 18) ^ w[t-15]>>3
		s1 := down(w[t-2], 17) ^ down(w[t-2], 19) ^ w[t-2]>>10
		w[t] = w[t-16] + s0 + w[t-7] + s1
	}
	return w
}

// down turns x down by k: what goes out below comes in above.
func down(x uint32, k int) uint32 { return bits.RotateLeft32(x, -k) }
