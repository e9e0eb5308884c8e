package flow

import "brazier/api"

func (m *maker) function(f api.Func) {
	m.within(func() {
		for _, name := range f.Params {
			m.declare(name, m.take())
		}
		m.stmts(f.Body)
		zero := m.take()
		m.num(zero, 0)
		m.leave(zero)
	})
}

func (m *maker) stmts(l []api.Stmt) {
	for _, s := range l {
		m.stmt(s)
	}
}

// scoped makes statements of a scope of their own.
func (m *maker) scoped(l []api.Stmt) {
	m.within(func() { m.stmts(l) })
}

func (m *maker) stmt(s api.Stmt) {
	switch s.Kind {
	case api.StVar:
		m.variable(s)
	case api.StIf:
		m.choose(s)
	case api.StWhile:
		m.while(s)
	case api.StBreak:
		m.jump(m.loops[len(m.loops)-1].ends)
	case api.StContinue:
		m.jump(m.loops[len(m.loops)-1].goesOn)
	case api.StBlock:
		m.scoped(s.Kids)
	default:
		m.borrowing(func() { m.simple(s) })
	}
}

// simple makes a statement that has expressions alone.
func (m *maker) simple(s api.Stmt) {
	switch s.Kind {
	case api.StSet:
		m.set(s.Name, s.Exprs[0])
	case api.StPut:
		index, value := m.value(s.Exprs[0]), m.value(s.Exprs[1])
		m.store(s.Name, index, value)
	case api.StCall:
		m.call(none, s.Name, s.Exprs)
	case api.StReturn:
		m.leave(m.value(s.Exprs[0]))
	case api.StPrint:
		m.print(m.value(s.Exprs[0]))
	}
}

// variable makes a new word: its register is the name's only behind the expression, in which an outer one may be named so.
func (m *maker) variable(s api.Stmt) {
	d := m.take()
	if len(s.Exprs) > 0 {
		m.into(d, s.Exprs[0])
	} else {
		m.num(d, 0)
	}
	m.declare(s.Name, d)
}

func (m *maker) set(name string, e api.Expr) {
	if d, local := m.register(name); local {
		m.into(d, e)
		return
	}
	m.store(name, none, m.value(e))
}

func (m *maker) choose(s api.Stmt) {
	yes, behind := m.place(), m.place()
	no := behind
	if len(s.Kids) > 1 {
		no = m.place()
	}
	m.condition(s.Exprs[0], yes, no)
	m.begin(yes)
	m.scoped(s.Kids[:1])
	if len(s.Kids) > 1 {
		m.jump(behind)
		m.begin(no)
		m.scoped(s.Kids[1:])
	}
	m.begin(behind)
}

func (m *maker) while(s api.Stmt) {
	again, body, behind := m.place(), m.place(), m.place()
	m.begin(again)
	m.condition(s.Exprs[0], body, behind)
	m.begin(body)
	m.loops = append(m.loops, loop{goesOn: again, ends: behind})
	m.scoped(s.Kids)
	m.loops = m.loops[:len(m.loops)-1]
	m.jump(again)
	m.begin(behind)
}
