package fold

import (
	"brazier/api"
	"brazier/blocks"
	"brazier/sets"
)

// none is the number of a register that isn't there.
const none = -1

// foldBlock puts numbers in the place of what is known; regs is what is known at the block's beginning, and is turned.
func foldBlock(b *api.Block, regs []api.Known) {
	for i, x := range b.Ins {
		b.Ins[i] = folded(x, regs)
		turn(x, regs)
	}
	if b.Kind != api.BlBranch {
		return
	}
	if to := ways(*b, regs); to[0] == to[len(to)-1] {
		b.Kind, b.A, b.To, b.Else = api.BlJump, 0, to[0], 0
	}
}

func folded(x api.Ins, regs []api.Known) api.Ins {
	switch x.Kind {
	case api.InCopy, api.InUn, api.InBin:
		if d := turned(x, regs); d.Kind == number {
			return api.Ins{Kind: api.InNum, D: x.D, A: none, B: none, Num: d.Num}
		}
	}
	if x.Kind == api.InBin {
		if a, is := same(x, regs); is {
			return api.Ins{Kind: api.InCopy, D: x.D, A: a, B: none}
		}
	}
	return x
}

// same is the one of an operator's registers that it lets be as it is, by what is known of the other one: false, if it lets none.
func same(x api.Ins, regs []api.Known) (int, bool) {
	a, b := regs[x.A], regs[x.B]
	switch {
	case b.Kind == number && lets(x.Op, b.Num):
		return x.A, true
	case a.Kind == number && turnsRound(x.Op) && lets(x.Op, a.Num):
		return x.B, true
	}
	return 0, false
}

// lets is whether an operator with that number as its second lets the first be as it is.
func lets(op int, n int32) bool {
	switch op {
	case api.Add, api.Sub, api.Or, api.Xor:
		return n == 0
	case api.Shl, api.Shr:
		return n%32 == 0
	case api.Mul, api.Div:
		return n == 1
	case api.And:
		return n == -1
	}
	return false
}

// turnsRound is whether what an operator lets be as second, it lets be as first, too.
func turnsRound(op int) bool {
	switch op {
	case api.Add, api.Or, api.Xor, api.Mul, api.And:
		return true
	}
	return false
}

// reached is the blocks that can be come to, rising.
func reached(f api.Fn) []int {
	seen := make([]bool, len(f.Blocks))
	var todo sets.Queue[int]
	come := func(n int) {
		if !seen[n] {
			seen[n] = true
			todo.Push(n)
		}
	}
	come(0)
	for n, more := todo.Pop(); more; n, more = todo.Pop() {
		for _, to := range blocks.OnTo(f.Blocks[n]) {
			come(to)
		}
	}
	var out []int
	for n, there := range seen {
		if there {
			out = append(out, n)
		}
	}
	return out
}

// trimmed is f, whose lists it has for its own, with the blocks alone that can be come to.
func trimmed(f api.Fn) api.Fn {
	anew := make([]int, len(f.Blocks)) // of each block its new number
	var left []api.Block
	for i, n := range reached(f) {
		anew[n] = i
		left = append(left, f.Blocks[n])
	}
	for i := range left {
		switch b := &left[i]; b.Kind {
		case api.BlBranch:
			b.Else = anew[b.Else]
			fallthrough
		case api.BlJump:
			b.To = anew[b.To]
		}
	}
	f.Blocks = left
	return f
}
