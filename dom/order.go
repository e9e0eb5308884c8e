package dom

import (
	"slices"

	"brazier/api"
	"brazier/blocks"
)

// A visit is a block that was gone into and not left yet.
type visit struct {
	block int
	onTo  []int // the blocks that are still to be gone into from there
}

// order goes into blocks, and leaves them, by a list of those that it is within: however deep that goes, no call is within another.
func order(f api.Fn) []int {
	seen := make([]bool, len(f.Blocks))
	var within []visit
	enter := func(n int) {
		seen[n] = true
		within = append(within, visit{block: n, onTo: blocks.OnTo(f.Blocks[n])})
	}
	var left []int
	enter(0)
going:
	for {
		last := &within[len(within)-1]
		for len(last.onTo) > 0 {
			to := last.onTo[0]
			last.onTo = last.onTo[1:]
			if !seen[to] {
				enter(to)
				continue going
			}
		}
		left = append(left, last.block)
		within = within[:len(within)-1]
		if len(within) == 0 {
			break going
		}
	}
	slices.Reverse(left)
	return left
}
