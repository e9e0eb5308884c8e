package unit

import (
	"brazier/api"
	"brazier/dead"
	"brazier/flow"
	"brazier/fold"
	"brazier/pick"
	"brazier/regs"
)

// A way is what a function is behind each of the passes.
type way struct {
	lowered, folded, thinned api.Fn
	picked                   api.Vfn
	unit                     api.Unit
}

func passed(p api.Prog, f api.Func) way {
	var w way
	w.lowered = flow.Lower(p, f)
	w.folded = fold.Fn(w.lowered)
	w.thinned = dead.Fn(w.folded)
	w.picked = pick.Fn(w.thinned)
	w.unit.Name = f.Name
	w.unit.Lines, w.unit.Frame = regs.Fn(w.picked)
	return w
}
