// Package word is layer 1: see shared/doc/01-word.md.
package word

import "brazier/api"

// Bin: P1.1.
func Bin(op int, a, b int32) (int32, bool) {
	switch op {
	case api.Add:
		return a + b, true
	case api.Sub:
		return a - b, true
	case api.Mul:
		return a * b, true
	case api.Div, api.Rem:
		return divide(op, a, b)
	case api.Shl:
		return a << count(b), true
	case api.Shr:
		return a >> count(b), true
	case api.And:
		return a & b, true
	case api.Or:
		return a | b, true
	case api.Xor:
		return a ^ b, true
	case api.Lt:
		return truth(a < b), true
	case api.Le:
		return truth(a <= b), true
	case api.Gt:
		return truth(a > b), true
	case api.Ge:
		return truth(a >= b), true
	case api.Eq:
		return truth(a == b), true
	case api.Ne:
		return truth(a != b), true
	case api.AndAnd:
		return truth(a != 0 && b != 0), true
	case api.OrOr:
		return truth(a != 0 || b != 0), true
	}
	return 0, false
}

// divide needs no case for the lowest word by -1: the language lets that quotient go round, with no remainder.
func divide(op int, a, b int32) (int32, bool) {
	if b == 0 {
		return 0, false
	}
	if op == api.Div {
		return a / b, true
	}
	return a % b, true
}

// count is how far a shift by b goes; unsigned, for a count below 0 would panic.
func count(b int32) uint32 { return uint32(b) % 32 }

func truth(is bool) int32 {
	if is {
		return 1
	}
	return 0
}

// Un: P1.1.
func Un(op int, a int32) (int32, bool) {
	switch op {
	case api.Neg:
		return -a, true
	case api.Not:
		return truth(a == 0), true
	case api.Inv:
		return ^a, true
	}
	return 0, false
}

// Fits: P1.5.
func Fits(n int32, bits int) bool {
	if bits < 1 || bits > 32 {
		return false
	}
	half := int64(1) << uint(bits-1)
	return int64(n) >= -half && int64(n) < half
}

// Split: P1.5.
func Split(n int32) (hi, lo int32) {
	lo = n << 20 >> 20
	hi = int32(uint32(n-lo) >> 12)
	return hi, lo
}
