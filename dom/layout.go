package dom

import (
	"maps"
	"slices"

	"brazier/api"
	"brazier/blocks"
	"brazier/fold"
	"brazier/sets"
)

// none is the number of a block that isn't there, and the place of one that can't be come to.
const none = -1

// A layout is how a function's blocks lie.
type layout struct {
	order []int
	place []int // of each block, in order
	preds [][]int
	idom  []int
}

func lay(f api.Fn) *layout {
	l := &layout{order: order(f), preds: blocks.Preds(f, fold.Reach(f))}
	l.place = slices.Repeat([]int{none}, len(f.Blocks))
	for i, n := range l.order {
		l.place[n] = i
	}
	l.idom = slices.Repeat([]int{none}, len(f.Blocks))
	for l.nearer() {
	}
	return l
}

// there is whether that is a block that can be come to.
func (l *layout) there(n int) bool { return n >= 0 && n < len(l.place) && l.place[n] >= 0 }

// nearer goes through the blocks once, and lets what dominates each be met by what is known so far of those that go on to it: false, when that turns nothing any more. The blocks that dominate one are a way up by Idom, and stand ahead of it in order.
func (l *layout) nearer() bool {
	meet := func(a, b int) int {
		for a != b {
			if l.place[a] < l.place[b] {
				a, b = b, a
			}
			a = l.idom[a]
		}
		return a
	}
	turned := false
	for _, n := range l.order[1:] {
		up := none
		for _, p := range l.preds[n] {
			switch {
			case l.idom[p] == none && p != l.order[0]: // nothing is known of it yet
			case up == none:
				up = p
			default:
				up = meet(up, p)
			}
		}
		turned = turned || up != l.idom[n]
		l.idom[n] = up
	}
	return turned
}

// dominates is of blocks that can be come to.
func (l *layout) dominates(a, b int) bool {
	for l.place[b] > l.place[a] {
		b = l.idom[b]
	}
	return a == b
}

// back is the blocks from which there is a way back to a block.
func (l *layout) back(h int) []int {
	var out []int
	for _, a := range l.preds[h] {
		if l.dominates(h, a) {
			out = append(out, a)
		}
	}
	return out
}

func (l *layout) loops() []api.Loop {
	var out []api.Loop
	for h := range l.preds {
		if from := l.back(h); len(from) > 0 {
			out = append(out, api.Loop{Head: h, Blocks: l.around(h, from)})
		}
	}
	return out
}

// around is h, and the blocks from which one of those can be come to without going through h.
func (l *layout) around(h int, from []int) []int {
	in := map[int]struct{}{h: {}}
	var todo sets.Queue[int]
	gather := func(more []int) {
		for _, n := range more {
			if _, there := in[n]; !there {
				in[n] = struct{}{}
				todo.Push(n)
			}
		}
	}
	gather(from)
	for n, more := todo.Pop(); more; n, more = todo.Pop() {
		gather(l.preds[n])
	}
	return slices.Sorted(maps.Keys(in))
}

// reducible goes by the order, since ways that go on in it make no round; and one that doesn't, and isn't back, stands in a round that is left without the ways back (Hecht and Ullman).
func (l *layout) reducible() bool {
	for n, preds := range l.preds {
		for _, a := range preds {
			if l.place[a] >= l.place[n] && !l.dominates(n, a) {
				return false
			}
		}
	}
	return true
}
