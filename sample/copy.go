package sample

import (
	"slices"

	"brazier/api"
)

// Copied is what of answers for each of l.
func Copied[T any](l []T, of func(T) T) []T {
	var out []T
	for _, x := range l {
		out = append(out, of(x))
	}
	return out
}

// CopyExpr shares nothing with e.
func CopyExpr(e api.Expr) api.Expr {
	e.Kids = Copied(e.Kids, CopyExpr)
	return e
}

// CopyStmt shares nothing with s.
func CopyStmt(s api.Stmt) api.Stmt {
	s.Exprs, s.Kids = Copied(s.Exprs, CopyExpr), Copied(s.Kids, CopyStmt)
	return s
}

// CopyFunc shares nothing with f.
func CopyFunc(f api.Func) api.Func {
	f.Params, f.Body = slices.Clone(f.Params), Copied(f.Body, CopyStmt)
	return f
}

// CopyProg shares nothing with p.
func CopyProg(p api.Prog) api.Prog {
	return api.Prog{Globals: slices.Clone(p.Globals), Funcs: Copied(p.Funcs, CopyFunc)}
}

func copyIns(x api.Ins) api.Ins {
	x.Args = slices.Clone(x.Args)
	return x
}

func copyBlock(b api.Block) api.Block {
	b.Ins = Copied(b.Ins, copyIns)
	return b
}

// CopyFn shares nothing with f.
func CopyFn(f api.Fn) api.Fn {
	f.Blocks = Copied(f.Blocks, copyBlock)
	return f
}

// CopyMid shares nothing with m.
func CopyMid(m api.Mid) api.Mid {
	return api.Mid{Globals: slices.Clone(m.Globals), Fns: Copied(m.Fns, CopyFn)}
}
