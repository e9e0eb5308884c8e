package sample

import (
	"slices"

	"brazier/api"
)

func (m *Maker) local(name string) bool {
	return slices.ContainsFunc(m.scopes, func(l []string) bool { return slices.Contains(l, name) })
}

// global is the name of a global that can be named here, an array or not: empty, if there is none.
func (m *Maker) global(array bool) string {
	var l []string
	for _, g := range m.p.Globals {
		if (g.Size > 0) == array && !m.local(g.Name) {
			l = append(l, g.Name)
		}
	}
	if len(l) == 0 {
		return ""
	}
	return one(m, l...)
}

// variable is a name that is a word's here: empty, if there is none.
func (m *Maker) variable() string {
	if l := slices.Concat(m.scopes...); len(l) > 0 && m.pick(4) > 0 {
		return one(m, l...)
	}
	return m.global(false)
}

// callee is a function that can be called here.
func (m *Maker) callee() (api.Func, bool) {
	f := one(m, m.p.Funcs...)
	if f.Name == "main" && m.pick(20) > 0 {
		return f, false
	}
	return f, !m.local(f.Name)
}

// Num is a number.
func (m *Maker) Num() api.Expr { return api.Expr{Kind: api.ExNum, Num: m.small()} }

func (m *Maker) exprs(n, deep int) []api.Expr {
	var out []api.Expr
	for range n {
		out = append(out, m.expr(deep))
	}
	return out
}

func (m *Maker) expr(deep int) api.Expr {
	n := m.pick(12)
	if deep <= 1 {
		n %= 5
	}
	switch {
	case n < 3:
		if name := m.variable(); name != "" {
			return api.Expr{Kind: api.ExVar, Name: name}
		}
	case n == 3:
		return api.Expr{Kind: api.ExRead}
	case n == 5:
		return api.Expr{Kind: api.ExUn, Op: api.Neg + m.pick(3), Kids: m.exprs(1, deep-1)}
	case n == 6:
		if f, ok := m.callee(); ok {
			return api.Expr{Kind: api.ExCall, Name: f.Name, Kids: m.exprs(len(f.Params), deep-1)}
		}
	case n == 7:
		if name := m.global(true); name != "" {
			return api.Expr{Kind: api.ExIndex, Name: name, Kids: []api.Expr{m.index(deep - 1)}}
		}
	case n > 7:
		return m.binary(deep)
	}
	return m.Num()
}

// binary divides by any expression now and then only.
func (m *Maker) binary(deep int) api.Expr {
	op := api.Add + m.pick(18)
	kids := m.exprs(2, deep-1)
	if (op == api.Div || op == api.Rem) && m.pick(3) > 0 {
		kids[1] = api.Expr{Kind: api.ExNum, Num: int32(1 + m.pick(3))}
	}
	return api.Expr{Kind: api.ExBin, Op: op, Kids: kids}
}

// index is mostly one that arrays have.
func (m *Maker) index(deep int) api.Expr {
	switch m.pick(6) {
	case 0:
		return m.expr(deep)
	case 1, 2:
		return api.Expr{Kind: api.ExNum, Num: int32(m.pick(3))}
	}
	return api.Expr{Kind: api.ExBin, Op: api.And, Kids: []api.Expr{m.expr(deep), {Kind: api.ExNum, Num: int32(1 + m.pick(2))}}}
}
