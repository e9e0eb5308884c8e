package sample

import (
	"strconv"

	"brazier/api"
)

// A renamer gives each declaration of a function a name of its own, so that nothing shadows anything.
type renamer struct {
	scopes []map[string]int // of each name the number of its declaration
	count  int              // declarations so far
}

// Renamed is f with other local names, no two of them the same; and how many there are.
func Renamed(f api.Func) (api.Func, int) {
	f = CopyFunc(f)
	r := &renamer{scopes: []map[string]int{{}}}
	for i := range f.Params {
		r.declare(&f.Params[i])
	}
	r.stmts(f.Body)
	return f, r.count
}

func own(n int) string { return "own" + strconv.Itoa(n) }

func (r *renamer) declare(name *string) {
	r.scopes[len(r.scopes)-1][*name] = r.count
	*name = own(r.count)
	r.count++
}

func (r *renamer) use(name *string) {
	for i := len(r.scopes) - 1; i >= 0; i-- {
		if n, there := r.scopes[i][*name]; there {
			*name = own(n)
			return
		}
	}
}

func (r *renamer) stmts(l []api.Stmt) {
	for i := range l {
		r.stmt(&l[i])
	}
}

// within goes through statements of a scope of their own.
func (r *renamer) within(l []api.Stmt) {
	r.scopes = append(r.scopes, map[string]int{})
	r.stmts(l)
	r.scopes = r.scopes[:len(r.scopes)-1]
}

func (r *renamer) stmt(s *api.Stmt) {
	r.exprs(s.Exprs)
	switch s.Kind {
	case api.StVar:
		r.declare(&s.Name)
	case api.StSet:
		r.use(&s.Name)
	case api.StBlock:
		r.within(s.Kids)
		return
	}
	for i := range s.Kids {
		r.within(s.Kids[i : i+1])
	}
}

func (r *renamer) exprs(l []api.Expr) {
	for i := range l {
		if l[i].Kind == api.ExVar {
			r.use(&l[i].Name)
		}
		r.exprs(l[i].Kids)
	}
}
