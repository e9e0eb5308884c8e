// Package blocks has what the layers share that go through a function's blocks.
package blocks

import (
	"slices"

	"brazier/api"
)

// OnTo is the blocks that a block goes on to, To ahead of Else: one twice, if these are the same.
func OnTo(b api.Block) []int {
	switch b.Kind {
	case api.BlJump:
		return []int{b.To}
	case api.BlBranch:
		return []int{b.To, b.Else}
	}
	return nil
}

// Preds is, of each block, those of l that go on to it, each once, in l's order.
func Preds(f api.Fn, l []int) [][]int {
	out := make([][]int, len(f.Blocks))
	for _, n := range l {
		for _, to := range OnTo(f.Blocks[n]) {
			if p := out[to]; len(p) == 0 || p[len(p)-1] != n {
				out[to] = append(p, n)
			}
		}
	}
	return out
}

// All is the numbers of all blocks, rising.
func All(f api.Fn) []int {
	out := make([]int, len(f.Blocks))
	for n := range out {
		out[n] = n
	}
	return out
}

// Copy shares nothing with f.
func Copy(f api.Fn) api.Fn {
	f.Blocks = slices.Clone(f.Blocks)
	for i := range f.Blocks {
		b := &f.Blocks[i]
		b.Ins = slices.Clone(b.Ins)
		for j := range b.Ins {
			b.Ins[j].Args = slices.Clone(b.Ins[j].Args)
		}
	}
	return f
}

// Each is a program with what a pass makes of each function.
func Each(m api.Mid, pass func(api.Fn) api.Fn) api.Mid {
	out := api.Mid{Globals: slices.Clone(m.Globals)}
	for _, f := range m.Fns {
		out.Fns = append(out.Fns, pass(f))
	}
	return out
}

// Tried is what is made: a zero value, if that can't be made, as of a function that may not be, of which nothing is promised.
func Tried[T any](made func() T) (out T) {
	defer func() { _ = recover() }()
	return made()
}
