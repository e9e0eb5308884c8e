package regs_test

import (
	"slices"

	"brazier/api"
)

// The chapter, said another way: a register is live ahead of an instruction, if there is a way on from it to where it is asked, and it isn't turned on that way. What is of use where is a row of places a register; who has which spot is asked anew for each, of all that came ahead.

// A seeker looks along the ways for one register.
type seeker struct {
	code []api.Vins
	r    int
	seen map[int]bool
}

// liveAt is whether r is live ahead of the instruction i.
func liveAt(v api.Vfn, r, i int) bool {
	return (&seeker{v.Code, r, map[int]bool{}}).asks(i)
}

func (s *seeker) asks(i int) bool {
	if s.seen[i] {
		return false
	}
	s.seen[i] = true
	x := s.code[i]
	switch {
	case slices.Contains(x.Args, s.r) || x.A == s.r || x.B == s.r:
		return true
	case x.D == s.r || x.Op == api.PRet:
		return false
	case x.Op != api.PJump && s.asks(i+1):
		return true
	case x.Op != api.PJump && x.Op != api.PBnez && x.Op != api.PBeqz:
		return false
	}
	return s.asks(slices.IndexFunc(s.code, func(y api.Vins) bool { return y.Op == api.PLabel && y.Num == x.Num }))
}

// lives is Live.
func lives(v api.Vfn) [][]int {
	out := make([][]int, len(v.Code))
	for i := range v.Code {
		for r := range v.Regs {
			if liveAt(v, r, i) {
				out[i] = append(out[i], r)
			}
		}
	}
	return out
}

// places is of each register those at which it is of use, rising.
func places(v api.Vfn) [][]int {
	out := make([][]int, v.Regs)
	for r := range v.Regs {
		if r < v.Params || liveAt(v, r, 0) {
			out[r] = append(out[r], 0)
		}
		for i, x := range v.Code {
			if liveAt(v, r, i) || x.D == r {
				out[r] = append(out[r], i+1)
			}
		}
	}
	return out
}

// spansOf is Spans.
func spansOf(v api.Vfn) []api.Span {
	var out []api.Span
	for _, l := range places(v) {
		if len(l) == 0 {
			out = append(out, api.Span{From: 1})
		} else {
			out = append(out, api.Span{From: l[0], To: l[len(l)-1]})
		}
	}
	return out
}

// assignedTo is Assign, of spans.
func assignedTo(spans []api.Span) ([]api.Spot, int) {
	spots, slots := make([]api.Spot, len(spans)), 0
	greatest := -1
	for _, s := range spans {
		greatest = max(greatest, s.From)
	}
	holds := map[int]int{} // of a machine's register, who has it
	for from := 0; from <= greatest; from++ {
		for r, s := range spans {
			if s.From != from || s.To < s.From {
				continue
			}
			got := -1
			for n := range 11 {
				if who, there := holds[n]; got < 0 && (!there || spans[who].To < from) {
					got = n
				}
			}
			if got < 0 {
				got = longest(holds, spans)
				if spans[holds[got]].To <= s.To {
					spots[r] = api.Spot{Kind: api.SpotSlot, N: slots}
					slots++
					continue
				}
				spots[holds[got]] = api.Spot{Kind: api.SpotSlot, N: slots}
				slots++
			}
			holds[got] = r
			spots[r] = api.Spot{Kind: api.SpotReg, N: got}
		}
	}
	return spots, slots
}

// longest is the machine's register of the one that is of use the longest, of several the greatest.
func longest(holds map[int]int, spans []api.Span) int {
	best := 0
	for n := range 11 {
		a, b := spans[holds[n]].To, spans[holds[best]].To
		if a > b || a == b && holds[n] > holds[best] {
			best = n
		}
	}
	return best
}

// frameOf is Frame.
func frameOf(spots []api.Spot, slots int) int {
	regs := map[int]bool{}
	for _, s := range spots {
		if s.Kind == api.SpotReg {
			regs[s.N] = true
		}
	}
	bytes := 4*slots + 4*len(regs) + 4
	for bytes%16 != 0 {
		bytes++
	}
	return bytes
}
