package pick

import (
	"brazier/api"
	"brazier/word"
)

// place is of a label, or of what goes on to one.
func place(op, a, n int) api.Vins {
	return api.Vins{Op: op, D: none, A: a, B: none, Num: int32(n)}
}

func withNum(op, d, a int, n int32) api.Vins {
	return api.Vins{Op: op, D: d, A: a, B: none, Num: n}
}

func between(op, d, a, b int) api.Vins { return api.Vins{Op: op, D: d, A: a, B: b} }

func unary(x api.Ins) []api.Vins {
	switch x.Op {
	case api.Neg:
		return []api.Vins{between(api.Subs, x.D, none, x.A)}
	case api.Not:
		return []api.Vins{withNum(api.Sltiu, x.D, x.A, 1)}
	case api.Inv:
		return []api.Vins{withNum(api.Xori, x.D, x.A, -1)}
	}
	return nil
}

// turnsRound is whether a number goes with an operator as its first, too.
func turnsRound(op int) bool {
	switch op {
	case api.Add, api.And, api.Or, api.Xor:
		return true
	}
	return false
}

// byNumber is the one instruction of an operator with a number as its second: false, if there is none, or the number has no room in it.
func byNumber(op, d, a int, n int32) (api.Vins, bool) {
	fitting := func(op int, n int32) (api.Vins, bool) { return withNum(op, d, a, n), word.Fits(n, 12) }
	switch op {
	case api.Add:
		return fitting(api.Addi, n)
	case api.Sub:
		return fitting(api.Addi, -n)
	case api.And:
		return fitting(api.Andi, n)
	case api.Or:
		return fitting(api.Ori, n)
	case api.Xor:
		return fitting(api.Xori, n)
	case api.Lt:
		return fitting(api.Slti, n)
	case api.Shl:
		return withNum(api.Slli, d, a, n&31), true
	case api.Shr:
		return withNum(api.Srai, d, a, n&31), true
	case api.Eq:
		return withNum(api.Sltiu, d, a, 1), n == 0
	case api.Ne:
		return between(api.Sltus, d, none, a), n == 0
	}
	return api.Vins{}, false
}

// byRegisters is one instruction, or a second one behind it that makes a truth of what the first leaves.
func byRegisters(x api.Ins) []api.Vins {
	d, a, b := x.D, x.A, x.B
	less, more := between(api.Slts, d, a, b), between(api.Slts, d, b, a)
	turned := withNum(api.Xori, d, d, 1)
	apart := between(api.Subs, d, a, b)
	switch x.Op {
	case api.Lt:
		return []api.Vins{less}
	case api.Gt:
		return []api.Vins{more}
	case api.Le:
		return []api.Vins{more, turned}
	case api.Ge:
		return []api.Vins{less, turned}
	case api.Eq:
		return []api.Vins{apart, withNum(api.Sltiu, d, d, 1)}
	case api.Ne:
		return []api.Vins{apart, between(api.Sltus, d, none, d)}
	}
	if op := reckons(x.Op); op != 0 {
		return []api.Vins{between(op, d, a, b)}
	}
	return nil
}

// reckons is the machine's instruction that is an operator of its own: 0, if there is none.
func reckons(op int) int {
	switch op {
	case api.Add:
		return api.Adds
	case api.Sub:
		return api.Subs
	case api.Mul:
		return api.Muls
	case api.Div:
		return api.Divs
	case api.Rem:
		return api.Rems
	case api.Shl:
		return api.Slls
	case api.Shr:
		return api.Sras
	case api.And:
		return api.Ands
	case api.Or:
		return api.Ors
	case api.Xor:
		return api.Xors
	}
	return 0
}
