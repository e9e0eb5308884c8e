package fold

import (
	"slices"

	"brazier/api"
	"brazier/blocks"
	"brazier/sets"
	"brazier/word"
)

// The kinds of api.Known.
const (
	nothing = iota
	number
	varies
)

// reckoned is a number, if it could be reckoned.
func reckoned(n int32, ok bool) api.Known {
	if !ok {
		return api.Known{Kind: varies}
	}
	return api.Known{Kind: number, Num: n}
}

// meet is what is known where b comes, too, to where a was known: b is never nothing, for it comes.
func meet(a, b api.Known) api.Known {
	if a.Kind == nothing || a == b {
		return b
	}
	return api.Known{Kind: varies}
}

// turned is what is known of an instruction's D behind it, by what is known of the registers ahead of it.
func turned(x api.Ins, regs []api.Known) api.Known {
	switch x.Kind {
	case api.InNum:
		return reckoned(x.Num, true)
	case api.InCopy:
		return regs[x.A]
	case api.InUn:
		if a := regs[x.A]; a.Kind == number {
			return reckoned(word.Un(x.Op, a.Num))
		}
	case api.InBin:
		return binary(x.Op, regs[x.A], regs[x.B])
	}
	return api.Known{Kind: varies}
}

func binary(op int, a, b api.Known) api.Known {
	zero := api.Known{Kind: number}
	switch {
	case (op == api.Mul || op == api.And) && (a == zero || b == zero):
		return zero
	case a.Kind == number && b.Kind == number:
		return reckoned(word.Bin(op, a.Num, b.Num))
	}
	return api.Known{Kind: varies}
}

// turn goes on behind an instruction.
func turn(x api.Ins, regs []api.Known) {
	if x.D >= 0 {
		regs[x.D] = turned(x, regs)
	}
}

// ways is the blocks that a block goes on to, by what is known at its end.
func ways(b api.Block, regs []api.Known) []int {
	if b.Kind == api.BlBranch && regs[b.A].Kind == number {
		if regs[b.A].Num != 0 {
			return []int{b.To}
		}
		return []int{b.Else}
	}
	return blocks.OnTo(b)
}

// A state is what is known at a place: without registers that doesn't tell whether anything comes there.
type state struct {
	comes bool
	regs  []api.Known
}

// A solver finds what is known at each block's beginning. That only ever goes on from nothing to a number, from a number to what varies: so it comes to an end, and to the least.
type solver struct {
	f    api.Fn
	at   []state
	todo sets.Queue[int]
}

func known(f api.Fn) []state {
	if f.Regs > api.MaxRegs {
		panic("more registers than there may be") // the room for them might not be there
	}
	s := &solver{f: f, at: make([]state, len(f.Blocks))}
	s.come(0, entered(f))
	for n, more := s.todo.Pop(); more; n, more = s.todo.Pop() {
		s.through(n)
	}
	return s.at
}

// entered is what is known when a call begins.
func entered(f api.Fn) []api.Known {
	regs := make([]api.Known, f.Regs)
	for r := range regs {
		regs[r] = api.Known{Kind: number}
		if r < f.Params {
			regs[r] = api.Known{Kind: varies}
		}
	}
	return regs
}

// come is that a run comes to a block with that: if it turns what is known there, the block is gone through anew.
func (s *solver) come(to int, regs []api.Known) {
	at := &s.at[to]
	anew := !at.comes
	if anew {
		*at = state{comes: true, regs: make([]api.Known, len(regs))}
	}
	for r, k := range regs {
		if both := meet(at.regs[r], k); both != at.regs[r] {
			at.regs[r] = both
			anew = true
		}
	}
	if anew {
		s.todo.Push(to)
	}
}

func (s *solver) through(n int) {
	b, regs := s.f.Blocks[n], slices.Clone(s.at[n].regs)
	for _, x := range b.Ins {
		turn(x, regs)
	}
	for _, to := range ways(b, regs) {
		s.come(to, regs)
	}
}
