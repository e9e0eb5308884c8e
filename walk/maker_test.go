package walk_test

import (
	"math"
	"math/rand"
	"slices"
	"testing"

	"brazier/api"
)

// A maker makes random programs in which nothing is wrong, of few names, so that they shadow each other.
type maker struct {
	*rand.Rand
	p      api.Prog
	scopes [][]string
	loops  int
}

func newMaker(seed int64) *maker { return &maker{Rand: rand.New(rand.NewSource(seed))} }

func rounds(n int) int {
	if testing.Short() {
		return n / 10
	}
	return n
}

func one[T any](m *maker, l ...T) T { return l[m.Intn(len(l))] }

func (m *maker) local(name string) bool {
	return slices.ContainsFunc(m.scopes, func(l []string) bool { return slices.Contains(l, name) })
}

// global is the name of a global that can be named here, an array or not: empty, if there is none.
func (m *maker) global(array bool) string {
	var l []string
	for _, g := range m.p.Globals {
		if (g.Size > 0) == array && !m.local(g.Name) {
			l = append(l, g.Name)
		}
	}
	if len(l) == 0 {
		return ""
	}
	return one(m, l...)
}

// word is a name that is a word's here: empty, if there is none.
func (m *maker) word() string {
	if l := slices.Concat(m.scopes...); len(l) > 0 && m.Intn(4) > 0 {
		return one(m, l...)
	}
	return m.global(false)
}

// callee is a function that can be called here.
func (m *maker) callee() (api.Func, bool) {
	f := one(m, m.p.Funcs...)
	if f.Name == "main" && m.Intn(20) > 0 {
		return f, false
	}
	return f, !m.local(f.Name)
}

func (m *maker) num() api.Expr {
	n := int32(m.Intn(6))
	if m.Intn(8) == 0 {
		n = one[int32](m, 31, 32, 255, 4096, 65536, math.MaxInt32)
	}
	return api.Expr{Kind: api.ExNum, Num: n}
}

func (m *maker) exprs(n, deep int) []api.Expr {
	var out []api.Expr
	for range n {
		out = append(out, m.expr(deep))
	}
	return out
}

func (m *maker) expr(deep int) api.Expr {
	n := m.Intn(12)
	if deep <= 1 {
		n %= 5
	}
	switch {
	case n < 3:
		if name := m.word(); name != "" {
			return api.Expr{Kind: api.ExVar, Name: name}
		}
	case n == 3:
		return api.Expr{Kind: api.ExRead}
	case n == 5:
		return api.Expr{Kind: api.ExUn, Op: api.Neg + m.Intn(3), Kids: m.exprs(1, deep-1)}
	case n == 6:
		if f, ok := m.callee(); ok {
			return api.Expr{Kind: api.ExCall, Name: f.Name, Kids: m.exprs(len(f.Params), deep-1)}
		}
	case n == 7:
		if name := m.global(true); name != "" {
			return api.Expr{Kind: api.ExIndex, Name: name, Kids: []api.Expr{m.index(deep - 1)}}
		}
	case n > 7:
		return m.binary(deep)
	}
	return m.num()
}

// binary divides by any expression now and then only.
func (m *maker) binary(deep int) api.Expr {
	op := api.Add + m.Intn(18)
	kids := m.exprs(2, deep-1)
	if (op == api.Div || op == api.Rem) && m.Intn(3) > 0 {
		kids[1] = api.Expr{Kind: api.ExNum, Num: int32(1 + m.Intn(3))}
	}
	return api.Expr{Kind: api.ExBin, Op: op, Kids: kids}
}

// index is mostly one that arrays have.
func (m *maker) index(deep int) api.Expr {
	switch m.Intn(6) {
	case 0:
		return m.expr(deep)
	case 1, 2:
		return api.Expr{Kind: api.ExNum, Num: int32(m.Intn(3))}
	}
	return api.Expr{Kind: api.ExBin, Op: api.And, Kids: []api.Expr{m.expr(deep), {Kind: api.ExNum, Num: int32(1 + m.Intn(2))}}}
}

// declared is a name that is new in the innermost scope: empty, if it has them all.
func (m *maker) declared() string {
	inner := &m.scopes[len(m.scopes)-1]
	free := slices.DeleteFunc([]string{"g", "a", "f", "x", "y", "z"}, func(name string) bool { return slices.Contains(*inner, name) })
	if len(free) == 0 {
		return ""
	}
	name := one(m, free...)
	*inner = append(*inner, name)
	return name
}

// within makes what stands in a scope of its own.
func (m *maker) within(loops int, make func()) {
	m.loops += loops
	m.scopes = append(m.scopes, nil)
	make()
	m.scopes = m.scopes[:len(m.scopes)-1]
	m.loops -= loops
}

// kid is a statement in a scope of its own, no if and no while: an else behind it would be its own.
func (m *maker) kid(loops, deep int) api.Stmt {
	var s api.Stmt
	m.within(loops, func() {
		if s = m.stmt(deep); s.Kind == api.StIf || s.Kind == api.StWhile {
			s = api.Stmt{Kind: api.StBlock, Kids: []api.Stmt{s}}
		}
	})
	return s
}

func (m *maker) stmts(deep int) []api.Stmt {
	var out []api.Stmt
	for range m.Intn(5) {
		out = append(out, m.stmt(deep))
	}
	return out
}

func (m *maker) block(deep int) api.Stmt {
	s := api.Stmt{Kind: api.StBlock}
	m.within(0, func() { s.Kids = m.stmts(deep - 1) })
	return s
}

func (m *maker) stmt(deep int) api.Stmt {
	n := m.Intn(17)
	if deep <= 1 {
		n %= 12
	}
	switch {
	case n < 2:
		s := api.Stmt{Kind: api.StVar, Exprs: m.exprs(m.Intn(2), 3)}
		if s.Name = m.declared(); s.Name != "" {
			return s
		}
	case n < 8:
		if s, ok := m.simple(n); ok {
			return s
		}
	case n < 10:
		return api.Stmt{Kind: api.StPrint, Exprs: m.exprs(1, 3)}
	case n == 10:
		if m.loops > 0 {
			return api.Stmt{Kind: one(m, api.StBreak, api.StContinue)}
		}
	case n == 11:
		if m.Intn(3) == 0 {
			return api.Stmt{Kind: api.StReturn, Exprs: m.exprs(1, 3)}
		}
	case n < 15:
		s := api.Stmt{Kind: api.StIf, Exprs: m.exprs(1, 3), Kids: []api.Stmt{m.kid(0, deep-1)}}
		if m.Intn(2) == 0 {
			s.Kids = append(s.Kids, m.kid(0, deep-1))
		}
		return s
	case n == 15:
		return m.while(deep)
	}
	if deep <= 1 {
		return api.Stmt{Kind: api.StBlock}
	}
	return m.block(deep)
}

// simple sets a word or calls: false, if there is no name for it.
func (m *maker) simple(n int) (api.Stmt, bool) {
	switch {
	case n < 5:
		name := m.word()
		return api.Stmt{Kind: api.StSet, Name: name, Exprs: m.exprs(1, 3)}, name != ""
	case n < 7:
		name := m.global(true)
		return api.Stmt{Kind: api.StPut, Name: name, Exprs: append([]api.Expr{m.index(2)}, m.expr(3))}, name != ""
	}
	f, ok := m.callee()
	return api.Stmt{Kind: api.StCall, Name: f.Name, Exprs: m.exprs(len(f.Params), 3)}, ok
}

// while goes on by any expression, or mostly by a word that is turned in it.
func (m *maker) while(deep int) api.Stmt {
	name := m.word()
	if name == "" || m.Intn(4) == 0 {
		return api.Stmt{Kind: api.StWhile, Exprs: m.exprs(1, 3), Kids: []api.Stmt{m.kid(1, deep-1)}}
	}
	word := api.Expr{Kind: api.ExVar, Name: name}
	test := api.Expr{Kind: api.ExBin, Op: api.Lt, Kids: []api.Expr{word, m.num()}}
	turn := api.Stmt{Kind: api.StSet, Name: name, Exprs: []api.Expr{{Kind: api.ExBin, Op: api.Add, Kids: []api.Expr{word, {Kind: api.ExNum, Num: 1}}}}}
	body := api.Stmt{Kind: api.StBlock}
	m.within(1, func() { m.within(0, func() { body.Kids = append([]api.Stmt{turn}, m.stmts(deep-1)...) }) })
	return api.Stmt{Kind: api.StWhile, Exprs: []api.Expr{test}, Kids: []api.Stmt{body}}
}

// prog lays down globals and the heads of functions, then makes what these do.
func (m *maker) prog() api.Prog {
	m.p = api.Prog{Funcs: []api.Func{{Name: "main"}}}
	for _, name := range []string{"g", "h"} {
		m.p.Globals = append(m.p.Globals, api.Global{Name: name})
	}
	for _, name := range []string{"a", "b"} {
		m.p.Globals = append(m.p.Globals, api.Global{Name: name, Size: one(m, 1, 3, 3, 4, 4, 100)})
	}
	for _, name := range []string{"f", "k", "l"}[:m.Intn(4)] {
		f := api.Func{Name: name}
		m.scopes = [][]string{nil}
		for range m.Intn(4) {
			f.Params = append(f.Params, m.declared())
		}
		m.p.Funcs = slices.Insert(m.p.Funcs, m.Intn(len(m.p.Funcs)+1), f)
	}
	for i := range m.p.Funcs {
		f := &m.p.Funcs[i]
		m.scopes = [][]string{slices.Clone(f.Params)}
		f.Body = append(m.stmts(5), m.stmts(5)...)
		if m.Intn(2) == 0 {
			f.Body = append(f.Body, api.Stmt{Kind: api.StReturn, Exprs: m.exprs(1, 3)})
		}
	}
	return m.p
}

// input is some words, most of them small.
func (m *maker) input() []int32 {
	var out []int32
	for range m.Intn(12) {
		out = append(out, one(m, 0, 1, 2, 3, -1, int32(m.Intn(10)), int32(m.Uint32())))
	}
	return out
}
