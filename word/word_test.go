package word

import (
	"math"
	"math/big"
	"testing"

	"brazier/api"
)

// edges are words at which something may go round, turn its sign, or leave its range.
func edges() []int32 {
	l := []int32{0, 1, 2, 3, 5, 7, 10, 15, 16, 30, 31, 32, 33, 63, 64, 65, 255, 256, 2047, 2048, 2049, 4095, 4096, 4097, 46340, 46341, 65535, 65536, 123456789, 1<<30 - 1, 1 << 30, math.MaxInt32 - 2048, math.MaxInt32 - 1, math.MaxInt32}
	for _, n := range l {
		l = append(l, -n)
	}
	return append(l, math.MinInt32, math.MinInt32+1, math.MinInt32+2047, math.MinInt32+2048)
}

// many are words all over the range, the same ones at each call.
func many(n int) []int32 {
	l := make([]int32, n)
	x := uint64(88172645463325252)
	for i := range l {
		x ^= x << 13
		x ^= x >> 7
		x ^= x << 17
		l[i] = int32(uint32(x >> 32))
	}
	return l
}

// wrapped is the word that is the same as x modulo 2^32.
func wrapped(x *big.Int) int32 {
	m := new(big.Int).Mod(x, new(big.Int).Lsh(big.NewInt(1), 32)) // from 0 on
	return int32(uint32(m.Uint64()))
}

func one(is bool) int32 {
	if is {
		return 1
	}
	return 0
}

// bitwise goes through the 32 bits of a and b modulo 2^32, from the lowest on.
func bitwise(a, b int32, of func(x, y bool) bool) int32 {
	bit := func(n int32, i int) bool {
		m := int64(n)
		if m < 0 {
			m += 1 << 32
		}
		return m/(1<<i)%2 == 1
	}
	sum := new(big.Int)
	for i := range 32 {
		if of(bit(a, i), bit(b, i)) {
			sum.Add(sum, new(big.Int).Lsh(big.NewInt(1), uint(i)))
		}
	}
	return wrapped(sum)
}

// asked is what P1.1 asks of Bin, reckoned with numbers of any size.
func asked(op int, a, b int32) (int32, bool) {
	x, y := big.NewInt(int64(a)), big.NewInt(int64(b))
	k := uint(((int64(b) % 32) + 32) % 32)
	switch op {
	case api.Add:
		return wrapped(new(big.Int).Add(x, y)), true
	case api.Sub:
		return wrapped(new(big.Int).Sub(x, y)), true
	case api.Mul:
		return wrapped(new(big.Int).Mul(x, y)), true
	case api.Div, api.Rem:
		if b == 0 {
			return 0, false
		}
		q := new(big.Int).Quo(x, y)
		if op == api.Div {
			return wrapped(q), true
		}
		return wrapped(x.Sub(x, q.Mul(q, y))), true
	case api.Shl:
		return wrapped(new(big.Int).Lsh(x, k)), true
	case api.Shr:
		return wrapped(new(big.Int).Div(x, new(big.Int).Lsh(big.NewInt(1), k))), true // Div by a number above 0 goes down
	case api.And:
		return bitwise(a, b, func(x, y bool) bool { return x && y }), true
	case api.Or:
		return bitwise(a, b, func(x, y bool) bool { return x || y }), true
	case api.Xor:
		return bitwise(a, b, func(x, y bool) bool { return x != y }), true
	case api.Lt:
		return one(x.Cmp(y) < 0), true
	case api.Le:
		return one(x.Cmp(y) <= 0), true
	case api.Gt:
		return one(x.Cmp(y) > 0), true
	case api.Ge:
		return one(x.Cmp(y) >= 0), true
	case api.Eq:
		return one(x.Cmp(y) == 0), true
	case api.Ne:
		return one(x.Cmp(y) != 0), true
	case api.AndAnd:
		return one(x.Sign() != 0 && y.Sign() != 0), true
	case api.OrOr:
		return one(x.Sign() != 0 || y.Sign() != 0), true
	}
	return 0, false
}

// P1.1: each operator of two, at edges and all over.
func TestBin(t *testing.T) {
	l := append(edges(), many(60)...)
	for op := api.Add; op <= api.OrOr; op++ {
		for _, a := range l {
			for _, b := range l {
				n, ok := Bin(op, a, b)
				if m, may := asked(op, a, b); n != m || ok != may {
					t.Fatalf("Bin(%d, %d, %d) = %d, %v; asked %d, %v", op, a, b, n, ok, m, may)
				}
			}
		}
	}
}

// P1.1: what the chapter's words say, reckoned by hand.
func TestBinByHand(t *testing.T) {
	for _, c := range []struct {
		op         int
		a, b, want int32
	}{
		{api.Add, math.MaxInt32, 1, math.MinInt32},
		{api.Add, math.MinInt32, math.MinInt32, 0},
		{api.Sub, math.MinInt32, 1, math.MaxInt32},
		{api.Sub, 3, 5, -2},
		{api.Mul, 65536, 65536, 0},
		{api.Mul, 46341, 46341, -2147479015},
		{api.Mul, math.MinInt32, -1, math.MinInt32},
		{api.Div, -7, 2, -3},
		{api.Div, 7, -2, -3},
		{api.Div, -7, -2, 3},
		{api.Div, math.MinInt32, -1, math.MinInt32},
		{api.Rem, -7, 2, -1},
		{api.Rem, 7, -2, 1},
		{api.Rem, -7, -2, -1},
		{api.Rem, math.MinInt32, -1, 0},
		{api.Shl, 1, 31, math.MinInt32},
		{api.Shl, 1, 32, 1},
		{api.Shl, 1, -1, math.MinInt32},
		{api.Shl, -1, -32, -1},
		{api.Shl, 3, 33, 6},
		{api.Shr, -1, 33, -1},
		{api.Shr, -7, 1, -4},
		{api.Shr, math.MinInt32, 31, -1},
		{api.Shr, math.MaxInt32, -1, 0},
		{api.Shr, 8, 35, 1},
		{api.And, -1, 12, 12},
		{api.And, math.MinInt32, -1, math.MinInt32},
		{api.Or, math.MinInt32, 1, math.MinInt32 + 1},
		{api.Or, 12, 10, 14},
		{api.Xor, -1, 1, -2},
		{api.Xor, 12, 10, 6},
		{api.Lt, math.MinInt32, math.MaxInt32, 1},
		{api.Lt, 4, 4, 0},
		{api.Le, 4, 4, 1},
		{api.Le, 5, 4, 0},
		{api.Gt, 0, -1, 1},
		{api.Gt, 4, 4, 0},
		{api.Ge, 4, 4, 1},
		{api.Ge, math.MinInt32, 0, 0},
		{api.Eq, -1, -1, 1},
		{api.Eq, 1, -1, 0},
		{api.Ne, 1, -1, 1},
		{api.Ne, 0, 0, 0},
		{api.AndAnd, 1, 2, 1},
		{api.AndAnd, -5, 0, 0},
		{api.AndAnd, 0, 1, 0},
		{api.OrOr, 0, -5, 1},
		{api.OrOr, 4, 0, 1},
		{api.OrOr, 2, 1, 1},
		{api.OrOr, 0, 0, 0},
	} {
		if n, ok := Bin(c.op, c.a, c.b); n != c.want || !ok {
			t.Errorf("Bin(%d, %d, %d) = %d, %v; want %d", c.op, c.a, c.b, n, ok, c.want)
		}
	}
}

// P1.1: by 0 there is neither quotient nor remainder.
func TestBinByNought(t *testing.T) {
	for _, op := range []int{api.Div, api.Rem} {
		for _, a := range edges() {
			if n, ok := Bin(op, a, 0); n != 0 || ok {
				t.Errorf("Bin(%d, %d, 0) = %d, %v", op, a, n, ok)
			}
		}
	}
}

// unknown are numbers that no operator has.
func unknown() []int {
	return []int{math.MinInt, math.MinInt32, -32, -19, -1, 0, 22, 23, 40, 63, 64, 65, 256 + api.Add, 1<<32 + api.Add, math.MaxInt32, math.MaxInt}
}

// P1.1: every other op.
func TestBinOfOthers(t *testing.T) {
	for _, op := range append(unknown(), api.Neg, api.Not, api.Inv) {
		for _, a := range edges() {
			if n, ok := Bin(op, a, 3); n != 0 || ok {
				t.Fatalf("Bin(%d, %d, 3) = %d, %v", op, a, n, ok)
			}
		}
	}
}

// P1.1: each operator of one.
func TestUn(t *testing.T) {
	for _, a := range append(edges(), many(500)...) {
		neg := wrapped(new(big.Int).Neg(big.NewInt(int64(a))))
		inv := bitwise(a, 0, func(x, _ bool) bool { return !x })
		for _, c := range []struct {
			op   int
			want int32
		}{{api.Neg, neg}, {api.Not, one(a == 0)}, {api.Inv, inv}} {
			if n, ok := Un(c.op, a); n != c.want || !ok {
				t.Fatalf("Un(%d, %d) = %d, %v; want %d", c.op, a, n, ok, c.want)
			}
		}
	}
}

func TestUnByHand(t *testing.T) {
	for _, c := range []struct {
		op      int
		a, want int32
	}{
		{api.Neg, 5, -5}, {api.Neg, 0, 0}, {api.Neg, math.MinInt32, math.MinInt32}, {api.Neg, math.MaxInt32, -math.MaxInt32},
		{api.Not, 0, 1}, {api.Not, 1, 0}, {api.Not, -1, 0}, {api.Not, math.MinInt32, 0},
		{api.Inv, 0, -1}, {api.Inv, -1, 0}, {api.Inv, 5, -6}, {api.Inv, math.MinInt32, math.MaxInt32},
	} {
		if n, ok := Un(c.op, c.a); n != c.want || !ok {
			t.Errorf("Un(%d, %d) = %d, %v; want %d", c.op, c.a, n, ok, c.want)
		}
	}
}

// P1.1: every other op, those of two among them.
func TestUnOfOthers(t *testing.T) {
	l := unknown()
	for op := api.Add; op <= api.OrOr; op++ {
		l = append(l, op)
	}
	for _, op := range l {
		for _, a := range edges() {
			if n, ok := Un(op, a); n != 0 || ok {
				t.Fatalf("Un(%d, %d) = %d, %v", op, a, n, ok)
			}
		}
	}
}

// P1.5: the range of each number of bits, at its ends and beyond.
func TestFits(t *testing.T) {
	for bits := 1; bits <= 32; bits++ {
		half := new(big.Int).Lsh(big.NewInt(1), uint(bits-1))
		low, high := new(big.Int).Neg(half), new(big.Int).Sub(half, big.NewInt(1))
		l := append(edges(), many(100)...)
		for d := int64(-2); d <= 2; d++ {
			l = append(l, wrapped(new(big.Int).Add(low, big.NewInt(d))), wrapped(new(big.Int).Add(high, big.NewInt(d))))
		}
		for _, n := range l {
			x := big.NewInt(int64(n))
			if want := x.Cmp(low) >= 0 && x.Cmp(high) <= 0; Fits(n, bits) != want {
				t.Fatalf("Fits(%d, %d) = %v", n, bits, !want)
			}
		}
	}
}

func TestFitsByHand(t *testing.T) {
	for _, c := range []struct {
		n    int32
		bits int
		want bool
	}{
		{0, 1, true}, {-1, 1, true}, {1, 1, false}, {-2, 1, false},
		{2047, 12, true}, {2048, 12, false}, {-2048, 12, true}, {-2049, 12, false},
		{math.MaxInt32, 31, false}, {math.MaxInt32, 32, true}, {math.MinInt32, 31, false}, {math.MinInt32, 32, true},
	} {
		if Fits(c.n, c.bits) != c.want {
			t.Errorf("Fits(%d, %d) = %v", c.n, c.bits, !c.want)
		}
	}
}

// P1.5: of other numbers of bits false, whatever the word.
func TestFitsOfOthers(t *testing.T) {
	for _, bits := range []int{math.MinInt, math.MinInt32, -64, -32, -1, 0, 33, 34, 64, 65, 256 + 12, 1<<32 + 12, math.MaxInt32, math.MaxInt} {
		for _, n := range edges() {
			if Fits(n, bits) {
				t.Fatalf("Fits(%d, %d)", n, bits)
			}
		}
	}
}

// P1.5: both parts are in their ranges, and make the word again; there is just one such pair.
func TestSplit(t *testing.T) {
	for _, n := range append(edges(), many(5000)...) {
		hi, lo := Split(n)
		if lo < -2048 || lo > 2047 || hi < 0 || hi > 1<<20-1 {
			t.Fatalf("Split(%d) = %d, %d", n, hi, lo)
		}
		sum := new(big.Int).Add(new(big.Int).Mul(big.NewInt(int64(hi)), big.NewInt(4096)), big.NewInt(int64(lo)))
		if wrapped(sum) != n {
			t.Fatalf("Split(%d) = %d, %d, which make %d", n, hi, lo, wrapped(sum))
		}
	}
}

func TestSplitByHand(t *testing.T) {
	for _, c := range []struct{ n, hi, lo int32 }{
		{0, 0, 0}, {2047, 0, 2047}, {2048, 1, -2048}, {4095, 1, -1}, {4096, 1, 0},
		{-1, 0, -1}, {-2048, 0, -2048}, {-2049, 1<<20 - 1, 2047}, {-4096, 1<<20 - 1, 0},
		{math.MaxInt32, 1 << 19, -1}, {math.MaxInt32 - 2048, 1<<19 - 1, 2047}, {math.MinInt32, 1 << 19, 0},
	} {
		if hi, lo := Split(c.n); hi != c.hi || lo != c.lo {
			t.Errorf("Split(%d) = %d, %d; want %d, %d", c.n, hi, lo, c.hi, c.lo)
		}
	}
}

// P1.6: sums and products may be turned round and taken together in any order.
func TestAnyOrder(t *testing.T) {
	l := append(edges(), many(20)...)
	for _, op := range []int{api.Add, api.Mul} {
		of := func(a, b int32) int32 {
			n, ok := Bin(op, a, b)
			if !ok {
				t.Fatalf("Bin(%d, %d, %d) is false", op, a, b)
			}
			return n
		}
		for _, a := range l {
			for _, b := range l {
				if of(a, b) != of(b, a) {
					t.Fatalf("op %d of %d and %d, turned round", op, a, b)
				}
				for _, c := range l {
					if of(of(a, b), c) != of(a, of(b, c)) {
						t.Fatalf("op %d of %d, %d, %d, taken together otherwise", op, a, b, c)
					}
				}
			}
		}
	}
}

// P1.6: quotient times b and the remainder make a.
func TestQuotientAndRemainder(t *testing.T) {
	l := append(edges(), many(60)...)
	for _, a := range l {
		for _, b := range l {
			q, ok := Bin(api.Div, a, b)
			r, too := Bin(api.Rem, a, b)
			if ok != (b != 0) || too != ok {
				t.Fatalf("%d by %d: %v, %v", a, b, ok, too)
			}
			product, _ := Bin(api.Mul, q, b)
			if sum, _ := Bin(api.Add, product, r); ok && sum != a {
				t.Fatalf("%d by %d: %d, %d make %d", a, b, q, r, sum)
			}
		}
	}
}
