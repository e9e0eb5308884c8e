package deps_test

import (
	"math/rand"
	"reflect"
	"slices"
	"strings"
	"testing"

	"brazier/api"
	"brazier/check"
	"brazier/sample"
	"brazier/syntax"
)

// A maker makes random programs.
type maker struct {
	*rand.Rand
	*sample.Maker
}

func newMaker(seed int64) *maker {
	r := rand.New(rand.NewSource(seed))
	return &maker{Rand: r, Maker: sample.New(r.Intn)}
}

func rounds(n int) int {
	if testing.Short() {
		return n / 10
	}
	return n
}

func one[T any](m *maker, l ...T) T { return l[m.Intn(len(l))] }

// program is one of a text, in which nothing may be wrong.
func program(t *testing.T, text string) api.Prog {
	t.Helper()
	p, err, at := syntax.Parse(text)
	if err != api.OK {
		t.Fatalf("%.200s: %d, %+v", text, err, at)
	}
	if d := check.Check(p); d != (api.Diag{}) {
		t.Fatalf("%.200s: %+v", text, d)
	}
	return p
}

// function is a program's of that name.
func function(t *testing.T, p api.Prog, name string) api.Func {
	t.Helper()
	i := slices.IndexFunc(p.Funcs, func(f api.Func) bool { return f.Name == name })
	if i < 0 {
		t.Fatal("no function", name)
	}
	return p.Funcs[i]
}

// named is the names that a function has that aren't local ones, those that are called apart, each once, rising. Local names are told apart by others being given to them.
func named(f api.Func) (called, others []string) {
	f, _ = sample.Renamed(f)
	locals := slices.Clone(f.Params)
	var exprs func(l []api.Expr)
	exprs = func(l []api.Expr) {
		for _, e := range l {
			switch e.Kind {
			case api.ExCall:
				called = append(called, e.Name)
			case api.ExVar, api.ExIndex:
				others = append(others, e.Name)
			}
			exprs(e.Kids)
		}
	}
	var stmts func(l []api.Stmt)
	stmts = func(l []api.Stmt) {
		for _, s := range l {
			switch s.Kind {
			case api.StVar:
				locals = append(locals, s.Name)
			case api.StCall:
				called = append(called, s.Name)
			case api.StSet, api.StPut:
				others = append(others, s.Name)
			}
			exprs(s.Exprs)
			stmts(s.Kids)
		}
	}
	stmts(f.Body)
	others = slices.DeleteFunc(others, func(name string) bool { return slices.Contains(locals, name) })
	return rising(called), rising(others)
}

// rising is names by bytes, each once.
func rising(l []string) []string {
	slices.Sort(l)
	return slices.Compact(l)
}

func words(l []string) string { return strings.Join(l, " ") }

func alike(a, b api.Prog) bool { return reflect.DeepEqual(sample.CopyProg(a), sample.CopyProg(b)) }

// emptied lets lists that are nil be empty ones.
func emptied(p *api.Prog) {
	var exprs func(l *[]api.Expr)
	exprs = func(l *[]api.Expr) {
		*l = append([]api.Expr{}, *l...)
		for i := range *l {
			exprs(&(*l)[i].Kids)
		}
	}
	var stmts func(l *[]api.Stmt)
	stmts = func(l *[]api.Stmt) {
		*l = append([]api.Stmt{}, *l...)
		for i := range *l {
			exprs(&(*l)[i].Exprs)
			stmts(&(*l)[i].Kids)
		}
	}
	for i := range p.Funcs {
		f := &p.Funcs[i]
		f.Params = append([]string{}, f.Params...)
		stmts(&f.Body)
	}
}
