package syntax

import (
	"slices"

	"brazier/api"
)

// Depth: P8.3.
func Depth(f api.Func) int {
	var expr func(e api.Expr) int
	expr = func(e api.Expr) int { return 1 + greatest(e.Kids, expr) }
	var stmt func(s api.Stmt) int
	stmt = func(s api.Stmt) int { return 1 + max(greatest(s.Exprs, expr), greatest(s.Kids, stmt)) }
	return greatest(f.Body, stmt)
}

// greatest is what is the most of any of them, 0 without.
func greatest[T any](l []T, of func(T) int) int {
	most := 0
	for _, x := range l {
		most = max(most, of(x))
	}
	return most
}

// Same: P8.6.
func Same(a, b api.Prog) bool {
	return slices.Equal(a.Globals, b.Globals) && slices.EqualFunc(a.Funcs, b.Funcs, SameFunc)
}

// SameFunc: P8.6.
func SameFunc(a, b api.Func) bool {
	var expr func(a, b api.Expr) bool
	expr = func(a, b api.Expr) bool {
		return a.Kind == b.Kind && a.Num == b.Num && a.Op == b.Op && a.Name == b.Name && slices.EqualFunc(a.Kids, b.Kids, expr)
	}
	var stmt func(a, b api.Stmt) bool
	stmt = func(a, b api.Stmt) bool {
		return a.Kind == b.Kind && a.Name == b.Name && slices.EqualFunc(a.Exprs, b.Exprs, expr) && slices.EqualFunc(a.Kids, b.Kids, stmt)
	}
	return a.Name == b.Name && slices.Equal(a.Params, b.Params) && slices.EqualFunc(a.Body, b.Body, stmt)
}
