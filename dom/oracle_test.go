package dom_test

import (
	"slices"

	"brazier/api"
)

// The chapter, said another way: by what can be come to from where, if a block is left out.

func onTo(f api.Fn, n int) []int {
	b := f.Blocks[n]
	switch b.Kind {
	case api.BlJump:
		return []int{b.To}
	case api.BlBranch:
		return []int{b.To, b.Else}
	}
	return nil
}

// leave tells leaves of the blocks that can be come to from one without going through another, in the order in which they are left.
func leave(f api.Fn, from, without int, leaves func(n int)) {
	seen := make([]bool, len(f.Blocks))
	var into func(n int)
	into = func(n int) {
		if n == without || seen[n] {
			return
		}
		seen[n] = true
		for _, to := range onTo(f, n) {
			into(to)
		}
		leaves(n)
	}
	into(from)
}

// come is whether one can be come to from another without going through a third.
func come(f api.Fn, from, to, without int) bool {
	found := false
	leave(f, from, without, func(n int) { found = found || n == to })
	return found
}

func oracle(f api.Fn) told {
	count := len(f.Blocks)
	x := told{Preds: make([][]int, count), Depth: make([]int, count)}
	leave(f, 0, -1, func(n int) { x.Order = append([]int{n}, x.Order...) })
	there := func(n int) bool { return slices.Contains(x.Order, n) }
	for a := range count {
		var row []bool
		for b := range count {
			row = append(row, there(a) && there(b) && !come(f, 0, b, a))
			if there(b) && slices.Contains(onTo(f, b), a) {
				x.Preds[a] = append(x.Preds[a], b)
			}
		}
		x.Dominates = append(x.Dominates, row)
	}
	for b := range count {
		x.Idom = append(x.Idom, idom(x, b))
	}
	back := func(a, h int) bool { return slices.Contains(x.Preds[h], a) && x.Dominates[h][a] }
	for h := range count {
		if l := around(f, x, h, back); l != nil {
			x.Loops = append(x.Loops, api.Loop{Head: h, Blocks: l})
			for _, n := range l {
				x.Depth[n]++
			}
		}
	}
	x.Reducible = reducible(x, back)
	return x
}

// idom is the one that dominates b, and is dominated by all others that do.
func idom(x told, b int) int {
	for a := range x.Dominates {
		if a == b || !x.Dominates[a][b] {
			continue
		}
		nearest := true
		for c := range x.Dominates {
			nearest = nearest && (c == b || !x.Dominates[c][b] || x.Dominates[c][a])
		}
		if nearest {
			return a
		}
	}
	return -1
}

// around is the blocks of the loop of a head: none, if it is none's.
func around(f api.Fn, x told, h int, back func(a, h int) bool) []int {
	var out []int
	loop := false
	for c := range f.Blocks {
		in := c == h
		for a := range f.Blocks {
			if back(a, h) {
				loop = true
				in = in || slices.Contains(x.Order, c) && come(f, c, a, h)
			}
		}
		if in {
			out = append(out, c)
		}
	}
	if !loop {
		return nil
	}
	return out
}

// reducible takes away blocks to which none of those goes on that are left, but back: are all gone in the end?
func reducible(x told, back func(a, h int) bool) bool {
	left := slices.Clone(x.Order)
	for len(left) > 0 {
		free := slices.IndexFunc(left, func(n int) bool {
			return !slices.ContainsFunc(left, func(a int) bool { return slices.Contains(x.Preds[n], a) && !back(a, n) })
		})
		if free < 0 {
			return false
		}
		left = slices.Delete(left, free, free+1)
	}
	return true
}
