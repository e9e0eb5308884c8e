package regs

import (
	"cmp"
	"slices"

	"brazier/api"
	"brazier/sets"
)

// spans is where registers are of use, by what is live ahead of each instruction: what it asks is, too.
func spans(v api.Vfn, live []*sets.Bits) []api.Span {
	if v.Regs > api.MaxRegs { // one that may not be, for which there might be no room
		return nil
	}
	out := slices.Repeat([]api.Span{{From: 1, To: 0}}, v.Regs)
	use := func(r, place int) { // places come rising
		s := &out[r]
		if s.To < s.From {
			s.From = place
		}
		s.To = place
	}
	for r := range v.Params {
		use(r, 0)
	}
	for i, x := range v.Code {
		for r := range live[i].Each() {
			if i == 0 {
				use(r, 0)
			}
			use(r, i+1)
		}
		if x.D != none {
			use(x.D, i+1)
		}
	}
	return out
}

// machineRegs is how many of the machine's registers there are for spots.
const machineRegs = 11

// An assigner gives registers their spots.
type assigner struct {
	spans []api.Span
	spots []api.Spot
	slots int
	taken [machineRegs]bool
	in    []int // the registers that have a machine's one, by rising To, of several the lesser ahead
}

// assigned is an assigner that has given each its spot, by rising From.
func assigned(spans []api.Span) assigner {
	a := assigner{spans: spans, spots: make([]api.Spot, len(spans))}
	var l []int
	for r, s := range spans {
		if s.From <= s.To {
			l = append(l, r)
		}
	}
	slices.SortStableFunc(l, func(r, s int) int { return cmp.Compare(spans[r].From, spans[s].From) })
	for _, r := range l {
		a.giveBack(spans[r].From)
		a.give(r)
	}
	return a
}

// giveBack frees the machine's registers of those that aren't of use from that place on.
func (a *assigner) giveBack(from int) {
	for len(a.in) > 0 && a.spans[a.in[0]].To < from {
		a.taken[a.spots[a.in[0]].N] = false
		a.in = a.in[1:]
	}
}

// give gives r a spot. If no machine's register is free, the one that is of use the longest goes without.
func (a *assigner) give(r int) {
	if n := slices.Index(a.taken[:], false); n >= 0 {
		a.hold(r, n)
		return
	}
	last := a.in[len(a.in)-1]
	if a.spans[last].To <= a.spans[r].To {
		a.spots[r] = a.slot()
		return
	}
	n := a.spots[last].N
	a.in = a.in[:len(a.in)-1]
	a.spots[last] = a.slot()
	a.hold(r, n)
}

// hold lets r have the machine's register n.
func (a *assigner) hold(r, n int) {
	a.taken[n] = true
	a.spots[r] = api.Spot{Kind: api.SpotReg, N: n}
	a.in = append(a.in, r)
	slices.SortFunc(a.in, func(r, s int) int { return cmp.Or(cmp.Compare(a.spans[r].To, a.spans[s].To), cmp.Compare(r, s)) })
}

func (a *assigner) slot() api.Spot {
	a.slots++
	return api.Spot{Kind: api.SpotSlot, N: a.slots - 1}
}

// held is the numbers of the machine's registers among spots, rising.
func held(spots []api.Spot) []int {
	var out []int
	for _, s := range spots {
		if s.Kind == api.SpotReg {
			out = append(out, s.N)
		}
	}
	slices.Sort(out)
	return slices.Compact(out)
}
