package deps

import (
	"slices"

	"brazier/api"
	"brazier/check"
	"brazier/sets"
)

// callers is, of each function that is called, those that call it themselves.
func callers(p api.Prog) map[string][]string {
	out := map[string][]string{}
	for _, f := range p.Funcs {
		callees, _ := check.Uses(p, f.Name)
		for _, name := range callees {
			out[name] = append(out[name], f.Name)
		}
	}
	return out
}

// next is, of functions and those that each calls, the least that calls none of the others; if there is none, the least.
func next(left *sets.Row[string, []string]) string {
	names := keys(left)
	ready := func(name string) bool {
		waits := func(callee string) bool {
			_, isLeft := left.Get(callee)
			return isLeft && callee != name
		}
		callees, _ := left.Get(name)
		return !slices.ContainsFunc(callees, waits)
	}
	return names[max(slices.IndexFunc(names, ready), 0)]
}

// keys is those of a row, rising.
func keys[V any](r *sets.Row[string, V]) []string {
	var out []string
	for k := range r.Each() {
		out = append(out, k)
	}
	return out
}
