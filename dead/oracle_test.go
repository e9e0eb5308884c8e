package dead_test

import (
	"slices"

	"brazier/api"
	"brazier/sample"
)

// The chapter, said another way: a register is live at a place, if there is a way on from it to where it is asked, and it isn't turned on that way.

// A spot is a place in a function: ahead of a block's instruction of that number, or of its end.
type spot struct{ block, ins int }

// A seeker looks along the ways for one register.
type seeker struct {
	f    api.Fn
	r    int
	seen map[spot]bool
}

// live is whether r is live at a place.
func live(f api.Fn, r int, at spot) bool {
	return r >= 0 && (&seeker{f, r, map[spot]bool{}}).asks(at)
}

func (s *seeker) asks(at spot) bool {
	if s.seen[at] {
		return false
	}
	s.seen[at] = true
	b := s.f.Blocks[at.block]
	if at.ins == len(b.Ins) {
		return b.Kind != api.BlJump && b.A == s.r || s.onward(at.block)
	}
	x := b.Ins[at.ins]
	switch {
	case slices.Contains(x.Args, s.r) || x.A == s.r || x.B == s.r:
		return true
	case x.D == s.r:
		return false
	}
	return s.asks(spot{at.block, at.ins + 1})
}

// onward is whether it is asked behind a block's end.
func (s *seeker) onward(block int) bool {
	b := s.f.Blocks[block]
	return b.Kind != api.BlReturn && s.asks(spot{b.To, 0}) || b.Kind == api.BlBranch && s.asks(spot{b.Else, 0})
}

// ends is Live.
func ends(f api.Fn) (in, out [][]int) {
	for n := range f.Blocks {
		var atIn, atOut []int
		for r := range f.Regs {
			if live(f, r, spot{n, 0}) {
				atIn = append(atIn, r)
			}
			if (&seeker{f, r, map[spot]bool{}}).onward(n) {
				atOut = append(atOut, r)
			}
		}
		in, out = append(in, atIn), append(out, atOut)
	}
	return in, out
}

// thinned is Fn, one instruction after the other: the first that may go, goes, and all is asked anew.
func thinned(f api.Fn) api.Fn {
	f = sample.CopyFn(f)
	for once(f) {
	}
	return f
}

func once(f api.Fn) bool {
	for n := range f.Blocks {
		b := &f.Blocks[n]
		for i, x := range b.Ins {
			if live(f, x.D, spot{n, i + 1}) && (x.Kind != api.InCopy || x.D != x.A) {
				continue
			}
			switch {
			case x.Kind == api.InCall && x.D >= 0:
				b.Ins[i].D = -1
				return true
			case x.Kind == api.InNum || x.Kind == api.InCopy || x.Kind == api.InUn || x.Kind == api.InBin && x.Op != api.Div && x.Op != api.Rem || x.Kind == api.InLoad && x.A == -1:
				b.Ins = slices.Delete(b.Ins, i, i+1)
				return true
			}
		}
	}
	return false
}
