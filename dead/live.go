package dead

import (
	"slices"

	"brazier/api"
	"brazier/blocks"
	"brazier/sets"
)

// none is the number of a register that isn't there.
const none = -1

// ends is what is live at a block's two ends: at its beginning, and behind its instructions.
type ends struct{ in, out *sets.Bits }

// asked is the registers that an instruction asks: a number below 0 is never in a set.
func asked(x api.Ins) *sets.Bits {
	out := sets.Of(x.Args...)
	out.Put(x.A)
	out.Put(x.B)
	return out
}

// askedAtEnd is the register that a block's end asks: none, if it asks none.
func askedAtEnd(b api.Block) int {
	if b.Kind == api.BlBranch || b.Kind == api.BlReturn {
		return b.A
	}
	return none
}

// backwards goes through a block from its end to the front, and answers what is live at its beginning. Of each instruction goes is told, with what is live behind it; where that is true it counts for nothing.
func backwards(b api.Block, out *sets.Bits, goes func(i int, live *sets.Bits) bool) *sets.Bits {
	live := out.Clone()
	live.Put(askedAtEnd(b))
	for i, x := range slices.Backward(b.Ins) {
		if !goes(i, live) {
			live.Drop(x.D)
			live.Join(asked(x))
		}
	}
	return live
}

// live joins sets till nothing is turned: they only grow, so these are the least. A block whose in has grown turns those that go on to it.
func live(f api.Fn) []ends {
	at := make([]ends, len(f.Blocks))
	var todo sets.Queue[int]
	for n := range slices.Backward(f.Blocks) {
		at[n] = ends{in: sets.Of(), out: sets.Of()}
		todo.Push(n)
	}
	ahead := blocks.Preds(f, blocks.All(f))
	stays := func(int, *sets.Bits) bool { return false }
	for n, more := todo.Pop(); more; n, more = todo.Pop() {
		b := f.Blocks[n]
		for _, to := range blocks.OnTo(b) {
			at[n].out.Join(at[to].in)
		}
		if at[n].in.Join(backwards(b, at[n].out, stays)) {
			for _, m := range ahead[n] {
				todo.Push(m)
			}
		}
	}
	return at
}
