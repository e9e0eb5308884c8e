package syntax

import (
	"reflect"
	"strings"
	"testing"

	"brazier/api"
	"brazier/lexer"
)

// Trees, by hand.

func eNum(n int32) api.Expr { return api.Expr{Kind: api.ExNum, Num: n} }

func eVar(name string) api.Expr { return api.Expr{Kind: api.ExVar, Name: name} }

func eIndex(name string, kids ...api.Expr) api.Expr {
	return api.Expr{Kind: api.ExIndex, Name: name, Kids: kids}
}

func eCall(name string, kids ...api.Expr) api.Expr {
	return api.Expr{Kind: api.ExCall, Name: name, Kids: kids}
}

func eRead() api.Expr { return api.Expr{Kind: api.ExRead} }

func eUn(op int, kids ...api.Expr) api.Expr {
	return api.Expr{Kind: api.ExUn, Op: op, Kids: kids}
}

func eBin(op int, kids ...api.Expr) api.Expr {
	return api.Expr{Kind: api.ExBin, Op: op, Kids: kids}
}

func sVar(name string, l ...api.Expr) api.Stmt {
	return api.Stmt{Kind: api.StVar, Name: name, Exprs: l}
}

func sSet(name string, l ...api.Expr) api.Stmt {
	return api.Stmt{Kind: api.StSet, Name: name, Exprs: l}
}

func sPut(name string, l ...api.Expr) api.Stmt {
	return api.Stmt{Kind: api.StPut, Name: name, Exprs: l}
}

func sCall(name string, l ...api.Expr) api.Stmt {
	return api.Stmt{Kind: api.StCall, Name: name, Exprs: l}
}

func sIf(e api.Expr, kids ...api.Stmt) api.Stmt {
	return api.Stmt{Kind: api.StIf, Exprs: []api.Expr{e}, Kids: kids}
}

func sWhile(e api.Expr, kids ...api.Stmt) api.Stmt {
	return api.Stmt{Kind: api.StWhile, Exprs: []api.Expr{e}, Kids: kids}
}

func sBreak() api.Stmt { return api.Stmt{Kind: api.StBreak} }

func sContinue() api.Stmt { return api.Stmt{Kind: api.StContinue} }

func sReturn(l ...api.Expr) api.Stmt { return api.Stmt{Kind: api.StReturn, Exprs: l} }

func sPrint(l ...api.Expr) api.Stmt { return api.Stmt{Kind: api.StPrint, Exprs: l} }

func sBlock(kids ...api.Stmt) api.Stmt { return api.Stmt{Kind: api.StBlock, Kids: kids} }

func fn(name string, params []string, body ...api.Stmt) api.Func {
	return api.Func{Name: name, Params: params, Body: body}
}

// prog is a program of globals and functions, in any order.
func prog(parts ...any) api.Prog {
	var p api.Prog
	for _, x := range parts {
		switch x := x.(type) {
		case api.Global:
			p.Globals = append(p.Globals, x)
		case api.Func:
			p.Funcs = append(p.Funcs, x)
		}
	}
	return p
}

// mainOf is a program of nothing but a main of these statements.
func mainOf(body ...api.Stmt) api.Prog { return prog(fn("main", nil, body...)) }

// Copies of trees, in which what is empty is nil.

func cloned[T any](l []T, of func(T) T) []T {
	var out []T
	for _, x := range l {
		out = append(out, of(x))
	}
	return out
}

func cloneExpr(e api.Expr) api.Expr {
	e.Kids = cloned(e.Kids, cloneExpr)
	return e
}

func cloneStmt(s api.Stmt) api.Stmt {
	s.Exprs = cloned(s.Exprs, cloneExpr)
	s.Kids = cloned(s.Kids, cloneStmt)
	return s
}

func cloneFunc(f api.Func) api.Func {
	f.Params = cloned(f.Params, func(s string) string { return s })
	f.Body = cloned(f.Body, cloneStmt)
	return f
}

func cloneProg(p api.Prog) api.Prog {
	p.Globals = cloned(p.Globals, func(g api.Global) api.Global { return g })
	p.Funcs = cloned(p.Funcs, cloneFunc)
	return p
}

// alike is Same, by the library.
func alike(a, b api.Prog) bool { return reflect.DeepEqual(cloneProg(a), cloneProg(b)) }

// parses tells that Parse answers this program.
func parses(t *testing.T, text string, want api.Prog) {
	t.Helper()
	p, err, at := Parse(text)
	if err != api.OK || at != (api.Place{}) || !alike(p, want) {
		t.Errorf("Parse(%.300q) = %+v, %d, %+v; want %+v", text, p, err, at, want)
	}
}

// fails tells that Parse answers this error, with so many bytes ahead of it, and nothing else.
func fails(t *testing.T, text string, want api.Errno, off int) {
	t.Helper()
	p, err, at := Parse(text)
	if err != want || at != lexer.At(text, off) || len(p.Globals) != 0 || len(p.Funcs) != 0 {
		t.Errorf("Parse(%.300q) = %.300v, %d, %+v; want %d, %+v", text, p, err, at, want, lexer.At(text, off))
	}
}

// marked tells likewise, of a text with a mark (which no text has that is cut) where the error is.
func marked(t *testing.T, text string, want api.Errno) {
	t.Helper()
	ahead, behind, ok := strings.Cut(text, "@")
	if !ok {
		t.Fatalf("no mark in %q", text)
	}
	fails(t, ahead+behind, want, len(ahead))
}
