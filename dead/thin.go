package dead

import (
	"slices"

	"brazier/api"
	"brazier/blocks"
	"brazier/sets"
)

// thinned is f without what goes by what is live in f as it is.
func thinned(f api.Fn) api.Fn {
	less := blocks.Copy(f)
	for n, at := range live(f) {
		thin(&less.Blocks[n], at.out)
	}
	return less
}

// thin lets of a block what nobody asks for go.
func thin(b *api.Block, out *sets.Bits) {
	var left []api.Ins // the last ahead
	backwards(*b, out, func(i int, live *sets.Bits) bool {
		x := b.Ins[i]
		if useless(x, live) {
			return true
		}
		if x.Kind == api.InCall && !live.Has(x.D) {
			x.D = none
		}
		left = append(left, x)
		return false
	})
	slices.Reverse(left)
	b.Ins = left
}

// useless is whether an instruction does nothing, or turns its D alone, which nobody asks for.
func useless(x api.Ins, live *sets.Bits) bool {
	return Pure(x) && !live.Has(x.D) || x.Kind == api.InCopy && x.D == x.A
}
