package sample

import (
	"slices"

	"brazier/api"
)

// declared is a name that is new in the innermost scope: empty, if it has them all.
func (m *Maker) declared() string {
	inner := &m.scopes[len(m.scopes)-1]
	free := slices.DeleteFunc([]string{"g", "a", "f", "x", "y", "z"}, func(name string) bool { return slices.Contains(*inner, name) })
	if len(free) == 0 {
		return ""
	}
	name := one(m, free...)
	*inner = append(*inner, name)
	return name
}

// within makes what stands in a scope of its own.
func (m *Maker) within(loops int, make func()) {
	m.loops += loops
	m.scopes = append(m.scopes, nil)
	make()
	m.scopes = m.scopes[:len(m.scopes)-1]
	m.loops -= loops
}

// kid is a statement in a scope of its own, no if and no while: an else behind it would be its own.
func (m *Maker) kid(loops, deep int) api.Stmt {
	var s api.Stmt
	m.within(loops, func() {
		if s = m.stmt(deep); s.Kind == api.StIf || s.Kind == api.StWhile {
			s = api.Stmt{Kind: api.StBlock, Kids: []api.Stmt{s}}
		}
	})
	return s
}

func (m *Maker) stmts(deep int) []api.Stmt {
	var out []api.Stmt
	for range m.pick(5) {
		out = append(out, m.stmt(deep))
	}
	return out
}

func (m *Maker) block(deep int) api.Stmt {
	s := api.Stmt{Kind: api.StBlock}
	m.within(0, func() { s.Kids = m.stmts(deep - 1) })
	return s
}

func (m *Maker) stmt(deep int) api.Stmt {
	n := m.pick(17)
	if deep <= 1 {
		n %= 12
	}
	switch {
	case n < 2:
		s := api.Stmt{Kind: api.StVar, Exprs: m.exprs(m.pick(2), 3)}
		if s.Name = m.declared(); s.Name != "" {
			return s
		}
	case n < 8:
		if s, ok := m.simple(n); ok {
			return s
		}
	case n < 10:
		return api.Stmt{Kind: api.StPrint, Exprs: m.exprs(1, 3)}
	case n == 10:
		if m.loops > 0 {
			return api.Stmt{Kind: one(m, api.StBreak, api.StContinue)}
		}
	case n == 11:
		if m.pick(3) == 0 {
			return api.Stmt{Kind: api.StReturn, Exprs: m.exprs(1, 3)}
		}
	case n < 15:
		return m.choice(deep)
	case n == 15:
		return m.while(deep)
	}
	if deep <= 1 {
		return api.Stmt{Kind: api.StBlock}
	}
	return m.block(deep)
}

func (m *Maker) choice(deep int) api.Stmt {
	s := api.Stmt{Kind: api.StIf, Exprs: m.exprs(1, 3), Kids: []api.Stmt{m.kid(0, deep-1)}}
	if m.pick(2) == 0 {
		s.Kids = append(s.Kids, m.kid(0, deep-1))
	}
	return s
}

// simple sets a word or calls: false, if there is no name for it.
func (m *Maker) simple(n int) (api.Stmt, bool) {
	switch {
	case n < 5:
		name := m.variable()
		return api.Stmt{Kind: api.StSet, Name: name, Exprs: m.exprs(1, 3)}, name != ""
	case n < 7:
		name := m.global(true)
		return api.Stmt{Kind: api.StPut, Name: name, Exprs: append([]api.Expr{m.index(2)}, m.expr(3))}, name != ""
	}
	f, ok := m.callee()
	return api.Stmt{Kind: api.StCall, Name: f.Name, Exprs: m.exprs(len(f.Params), 3)}, ok
}

// while goes on by any expression, or mostly by a word that is turned in it.
func (m *Maker) while(deep int) api.Stmt {
	name := m.variable()
	if name == "" || m.pick(4) == 0 {
		return api.Stmt{Kind: api.StWhile, Exprs: m.exprs(1, 3), Kids: []api.Stmt{m.kid(1, deep-1)}}
	}
	word := api.Expr{Kind: api.ExVar, Name: name}
	test := api.Expr{Kind: api.ExBin, Op: api.Lt, Kids: []api.Expr{word, m.Num()}}
	turn := api.Stmt{Kind: api.StSet, Name: name, Exprs: []api.Expr{{Kind: api.ExBin, Op: api.Add, Kids: []api.Expr{word, {Kind: api.ExNum, Num: 1}}}}}
	body := api.Stmt{Kind: api.StBlock}
	m.within(1, func() { m.within(0, func() { body.Kids = append([]api.Stmt{turn}, m.stmts(deep-1)...) }) })
	return api.Stmt{Kind: api.StWhile, Exprs: []api.Expr{test}, Kids: []api.Stmt{body}}
}

// Prog lays down globals and the heads of functions, then makes what these do.
func (m *Maker) Prog() api.Prog {
	m.p = api.Prog{Globals: m.globals(), Funcs: []api.Func{{Name: "main"}}}
	for _, name := range []string{"f", "k", "l"}[:m.pick(4)] {
		f := api.Func{Name: name}
		m.scopes = [][]string{nil}
		for range m.pick(4) {
			f.Params = append(f.Params, m.declared())
		}
		m.p.Funcs = slices.Insert(m.p.Funcs, m.pick(len(m.p.Funcs)+1), f)
	}
	for i := range m.p.Funcs {
		f := &m.p.Funcs[i]
		m.scopes = [][]string{slices.Clone(f.Params)}
		f.Body = append(m.stmts(5), m.stmts(5)...)
		if m.pick(2) == 0 {
			f.Body = append(f.Body, api.Stmt{Kind: api.StReturn, Exprs: m.exprs(1, 3)})
		}
	}
	return m.p
}

// globals is two words and two arrays.
func (m *Maker) globals() []api.Global {
	out := []api.Global{{Name: "g"}, {Name: "h"}}
	for _, name := range []string{"a", "b"} {
		out = append(out, api.Global{Name: name, Size: one(m, 1, 3, 3, 4, 4, 100)})
	}
	return out
}
