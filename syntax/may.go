package syntax

import (
	"math"

	"brazier/api"
	"brazier/lexer"
)

// May: P8.4.
func May(p api.Prog) bool {
	return len(p.Globals) <= api.MaxGlobals && len(p.Funcs) <= api.MaxFuncs && all(p.Globals, mayGlobal) && all(p.Funcs, mayFunc)
}

func all[T any](l []T, may func(T) bool) bool {
	for _, x := range l {
		if !may(x) {
			return false
		}
	}
	return true
}

func mayGlobal(g api.Global) bool {
	return lexer.IsName(g.Name) && g.Size >= 0 && g.Size <= api.MaxWords
}

func mayFunc(f api.Func) bool {
	var expr func(e api.Expr) bool
	expr = func(e api.Expr) bool { return wholeExpr(e) && all(e.Kids, expr) }
	var stmt func(s api.Stmt) bool
	stmt = func(s api.Stmt) bool { return wholeStmt(s) && all(s.Exprs, expr) && all(s.Kids, stmt) }
	return lexer.IsName(f.Name) && len(f.Params) <= api.MaxParams && all(f.Params, lexer.IsName) && all(f.Body, stmt) && Depth(f) <= api.MaxNest
}

// wholeExpr tells whether e has just what its kind has, whatever its kids are.
func wholeExpr(e api.Expr) bool {
	s, known := exprShape(e.Kind)
	return known && s.fits(e.Name, len(e.Kids), 0) && mayOp(e) && (e.Num == 0 || e.Kind == api.ExNum && e.Num > 0)
}

func mayOp(e api.Expr) bool {
	switch e.Kind {
	case api.ExUn:
		return ofOne(e.Op)
	case api.ExBin:
		return level(e.Op) > 0
	}
	return e.Op == 0
}

// wholeStmt tells whether s has just what its kind has, whatever its expressions and kids are, but for an else that isn't its own.
func wholeStmt(s api.Stmt) bool {
	shape, known := stmtShape(s.Kind)
	return known && shape.fits(s.Name, len(s.Exprs), len(s.Kids)) && !lost(s)
}

// lost tells whether the else of s, written, would belong to an if within its first kid.
func lost(s api.Stmt) bool { return s.Kind == api.StIf && len(s.Kids) == 2 && open(s.Kids[0]) }

// open tells whether an else behind s would belong to an if within s.
func open(s api.Stmt) bool {
	for {
		switch {
		case s.Kind == api.StIf && len(s.Kids) == 1:
			return true
		case s.Kind == api.StIf && len(s.Kids) == 2, s.Kind == api.StWhile && len(s.Kids) == 1:
			s = s.Kids[len(s.Kids)-1]
		default:
			return false
		}
	}
}

// A span is how few there may be, and how many.
type span struct{ least, most int }

func (s span) has(n int) bool { return n >= s.least && n <= s.most }

func just(n int) span { return span{n, n} }

func some() span { return span{0, math.MaxInt} }

// A shape is what there is of a kind: a name or none, so many expressions (of an expression: kids), so many kids.
type shape struct {
	named       bool
	exprs, kids span
}

func (s shape) fits(name string, exprs, kids int) bool {
	return mayName(name, s.named) && s.exprs.has(exprs) && s.kids.has(kids)
}

func mayName(name string, named bool) bool {
	if named {
		return lexer.IsName(name)
	}
	return name == ""
}

// exprShape is false of kinds that aren't known.
func exprShape(kind int) (shape, bool) {
	switch kind {
	case api.ExNum, api.ExRead:
		return shape{}, true
	case api.ExVar:
		return shape{named: true}, true
	case api.ExIndex:
		return shape{named: true, exprs: just(1)}, true
	case api.ExCall:
		return shape{named: true, exprs: some()}, true
	case api.ExUn:
		return shape{exprs: just(1)}, true
	case api.ExBin:
		return shape{exprs: just(2)}, true
	}
	return shape{}, false
}

// stmtShape is false of kinds that aren't known.
func stmtShape(kind int) (shape, bool) {
	switch kind {
	case api.StVar:
		return shape{named: true, exprs: span{0, 1}}, true
	case api.StSet:
		return shape{named: true, exprs: just(1)}, true
	case api.StPut:
		return shape{named: true, exprs: just(2)}, true
	case api.StCall:
		return shape{named: true, exprs: some()}, true
	case api.StIf:
		return shape{exprs: just(1), kids: span{1, 2}}, true
	case api.StWhile:
		return shape{exprs: just(1), kids: just(1)}, true
	case api.StBreak, api.StContinue:
		return shape{}, true
	case api.StReturn, api.StPrint:
		return shape{exprs: just(1)}, true
	case api.StBlock:
		return shape{kids: some()}, true
	}
	return shape{}, false
}
