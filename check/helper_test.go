package check_test

import (
	"reflect"
	"slices"
	"strconv"
	"strings"
	"testing"

	"brazier/api"
	"brazier/check"
	"brazier/syntax"
)

// program is a text's tree.
func program(t *testing.T, text string) api.Prog {
	t.Helper()
	p, err, at := syntax.Parse(text)
	if err != api.OK {
		t.Fatalf("%.300q isn't a program: %d at %+v", text, err, at)
	}
	return p
}

// told tells that Check answers this Diag of a text's program.
func told(t *testing.T, text string, err api.Errno, in, name string) {
	t.Helper()
	want := api.Diag{Err: err, Func: in, Name: name}
	if d := check.Check(program(t, text)); d != want {
		t.Errorf("%.300q: %+v; want %+v", text, d, want)
	}
}

// right tells that nothing is wrong with a text's program.
func right(t *testing.T, text string) {
	t.Helper()
	told(t, text, api.OK, "", "")
}

// The names that the statements of inMain may have: a word, an array, functions of none and of two parameters.
const around = "int g; int a[3]; int f() { } int two(int x, int y) { } int main() { "

// inMain tells what Check answers of a main of these statements.
func inMain(t *testing.T, body string, err api.Errno, name string) {
	t.Helper()
	told(t, around+body+" }", err, "main", name)
}

// fine tells that a main of these statements is right.
func fine(t *testing.T, body string) {
	t.Helper()
	right(t, around+body+" }")
}

// repeated is a text for each number from 0 on, n of them: # is the number.
func repeated(n int, text string) string {
	var out strings.Builder
	for i := range n {
		out.WriteString(strings.ReplaceAll(text, "#", strconv.Itoa(i)))
	}
	return out.String()
}

// uses tells that Uses answers these names, with blanks between them.
func uses(t *testing.T, p api.Prog, name, callees, globals string) {
	t.Helper()
	c, g := check.Uses(p, name)
	if !slices.Equal(c, strings.Fields(callees)) || !slices.Equal(g, strings.Fields(globals)) {
		t.Errorf("Uses(%s) of\n%s= %q, %q; want %q, %q", name, syntax.Print(p), c, g, callees, globals)
	}
}

// Copies of trees that share nothing with them.

func cloned[T any](l []T, of func(T) T) []T {
	var out []T
	for _, x := range l {
		out = append(out, of(x))
	}
	return out
}

func cloneExpr(e api.Expr) api.Expr {
	e.Kids = cloned(e.Kids, cloneExpr)
	return e
}

func cloneStmt(s api.Stmt) api.Stmt {
	s.Exprs = cloned(s.Exprs, cloneExpr)
	s.Kids = cloned(s.Kids, cloneStmt)
	return s
}

func cloneFunc(f api.Func) api.Func {
	f.Params = slices.Clone(f.Params)
	f.Body = cloned(f.Body, cloneStmt)
	return f
}

func cloneProg(p api.Prog) api.Prog {
	return api.Prog{Globals: slices.Clone(p.Globals), Funcs: cloned(p.Funcs, cloneFunc)}
}

// alike is whether two functions have the same fields, by the library.
func alike(a, b api.Func) bool { return reflect.DeepEqual(bare(a), bare(b)) }

// bare is a copy in which what is empty is nil.
func bare(f api.Func) api.Func {
	f = cloneFunc(f)
	if len(f.Params) == 0 {
		f.Params = nil
	}
	return f
}

// nodes is all expressions and statements of a program, where they stand.
func nodes(p *api.Prog) (exprs []*api.Expr, stmts []*api.Stmt) {
	var expr func(l []api.Expr)
	expr = func(l []api.Expr) {
		for i := range l {
			exprs = append(exprs, &l[i])
			expr(l[i].Kids)
		}
	}
	var stmt func(l []api.Stmt)
	stmt = func(l []api.Stmt) {
		for i := range l {
			stmts = append(stmts, &l[i])
			expr(l[i].Exprs)
			stmt(l[i].Kids)
		}
	}
	for i := range p.Funcs {
		stmt(p.Funcs[i].Body)
	}
	return exprs, stmts
}
