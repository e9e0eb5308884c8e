package code

import "brazier/api"

// laid is Num's bits, where they lie in the word.
func laid(f form, num int32) uint32 {
	w := uint32(0)
	for _, p := range pieces(f) {
		w |= cut(uint32(num), p.from, p.bits) << p.at
	}
	return w
}

// cut is so many bits of w, from that one on.
func cut(w uint32, from, bits int) uint32 { return w >> from & (1<<bits - 1) }

// read is the line of a word, if it is one of that instruction.
func read(op int, f form, w uint32) api.Line {
	l := api.Line{Kind: api.LineIns, Op: op, Num: num(f, w)}
	d, a, b := register(w, atD), register(w, atA), register(w, atB)
	switch f {
	case three:
		l.D, l.A, l.B = d, a, b
	case small, shift:
		l.D, l.A = d, a
	case store, branch:
		l.A, l.B = a, b
	case upper, far:
		l.D = d
	}
	return l
}

func register(w uint32, at int) int { return int(cut(w, at, 5)) }

// num is Num of a word: the highest of its bits is its sign, but where it has none.
func num(f form, w uint32) int32 {
	n, size := uint32(0), 0
	for _, p := range pieces(f) {
		n |= cut(w, p.at, p.bits) << p.from
		size = p.from + p.bits
	}
	if f == upper || f == shift {
		return int32(n)
	}
	rest := 32 - size
	return int32(n<<rest) >> rest
}
