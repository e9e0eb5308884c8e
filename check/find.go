package check

import (
	"slices"

	"brazier/api"
	"brazier/sets"
)

// Uses: P9.4.
func Uses(p api.Prog, name string) (callees, globals []string) {
	f, there := function(p.Funcs, name)
	if !there {
		return nil, nil
	}
	var calls, names sets.Row[string, struct{}]
	w := walker{own: tableOf(p), tell: func(found any) {
		u, ok := found.(use)
		switch {
		case !ok:
		case u.is.role == globalWord, u.is.role == globalArray:
			names.Put(u.name, struct{}{})
		case u.is.role == ofFunction && u.as == asCall:
			calls.Put(u.name, struct{}{})
		}
	}}
	w.walk(f)
	return keys(&calls), keys(&names)
}

// keys is those of a row, rising.
func keys[V any](r *sets.Row[string, V]) []string {
	var out []string
	for k := range r.Each() {
		out = append(out, k)
	}
	return out
}

// function is the first of that name, as it was handed in.
func function(l []api.Func, name string) (api.Func, bool) {
	for _, f := range l {
		if f.Name == name {
			return f, true
		}
	}
	return api.Func{}, false
}

// Find: P9.4.
func Find(p api.Prog, name string) (api.Func, bool) {
	f, there := function(p.Funcs, name)
	f.Params = slices.Clone(f.Params)
	f.Body = copied(f.Body, copyStmt)
	return f, there
}

// Global: P9.4.
func Global(p api.Prog, name string) (api.Global, bool) {
	for _, g := range p.Globals {
		if g.Name == name {
			return g, true
		}
	}
	return api.Global{}, false
}

func copyStmt(s api.Stmt) api.Stmt {
	s.Exprs = copied(s.Exprs, copyExpr)
	s.Kids = copied(s.Kids, copyStmt)
	return s
}

func copyExpr(e api.Expr) api.Expr {
	e.Kids = copied(e.Kids, copyExpr)
	return e
}

// copied is a list that shares nothing with l, if of answers what shares nothing with what it is given.
func copied[T any](l []T, of func(T) T) []T {
	out := slices.Clone(l)
	for i, x := range out {
		out[i] = of(x)
	}
	return out
}
