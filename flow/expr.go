package flow

import "brazier/api"

// value is the register that an expression's value is in: a local's own, since no expression turns one, else one that is taken for it.
func (m *maker) value(e api.Expr) int {
	if r, local := m.register(e.Name); local && e.Kind == api.ExVar {
		return r
	}
	d := m.take()
	m.into(d, e)
	return d
}

// into lets d be an expression's value. It is turned when all else was asked, for it may be a local's that the expression names.
func (m *maker) into(d int, e api.Expr) {
	m.borrowing(func() {
		switch e.Kind {
		case api.ExNum:
			m.num(d, e.Num)
		case api.ExVar:
			m.variableInto(d, e.Name)
		case api.ExIndex:
			m.load(d, e.Name, m.value(e.Kids[0]))
		case api.ExCall:
			m.call(d, e.Name, e.Kids)
		case api.ExRead:
			m.add(api.Ins{Kind: api.InRead, D: d, A: none, B: none})
		case api.ExUn:
			m.add(api.Ins{Kind: api.InUn, Op: e.Op, D: d, A: m.value(e.Kids[0]), B: none})
		case api.ExBin:
			m.binary(d, e)
		}
	})
}

func (m *maker) variableInto(d int, name string) {
	if r, local := m.register(name); local {
		m.add(api.Ins{Kind: api.InCopy, D: d, A: r, B: none})
		return
	}
	m.load(d, name, none)
}

func (m *maker) binary(d int, e api.Expr) {
	if e.Op == api.AndAnd || e.Op == api.OrOr {
		m.truth(d, e)
		return
	}
	a, b := m.value(e.Kids[0]), m.value(e.Kids[1])
	m.add(api.Ins{Kind: api.InBin, Op: e.Op, D: d, A: a, B: b})
}

// truth lets d be 1 where a condition holds, else 0.
func (m *maker) truth(d int, e api.Expr) {
	yes, no, behind := m.place(), m.place(), m.place()
	m.condition(e, yes, no)
	m.begin(yes)
	m.num(d, 1)
	m.jump(behind)
	m.begin(no)
	m.num(d, 0)
	m.begin(behind)
}

// condition goes on to yes, if an expression isn't 0, else to no. Of && and || the second kid is only come to if it is asked for.
func (m *maker) condition(e api.Expr, yes, no place) {
	switch {
	case e.Kind == api.ExUn && e.Op == api.Not:
		m.condition(e.Kids[0], no, yes)
	case e.Kind == api.ExBin && e.Op == api.AndAnd:
		second := m.place()
		m.condition(e.Kids[0], second, no)
		m.begin(second)
		m.condition(e.Kids[1], yes, no)
	case e.Kind == api.ExBin && e.Op == api.OrOr:
		second := m.place()
		m.condition(e.Kids[0], yes, second)
		m.begin(second)
		m.condition(e.Kids[1], yes, no)
	default:
		m.borrowing(func() { m.branch(m.value(e), yes, no) })
	}
}

func (m *maker) num(d int, n int32) {
	m.add(api.Ins{Kind: api.InNum, D: d, A: none, B: none, Num: n})
}

func (m *maker) print(a int) {
	m.add(api.Ins{Kind: api.InPrint, D: none, A: a, B: none})
}

// load is of an array's word with an index, without (none) of a word.
func (m *maker) load(d int, name string, index int) {
	m.add(api.Ins{Kind: api.InLoad, D: d, A: index, B: none, Name: name})
}

func (m *maker) store(name string, index, b int) {
	m.add(api.Ins{Kind: api.InStore, D: none, A: index, B: b, Name: name})
}

func (m *maker) call(d int, name string, args []api.Expr) {
	x := api.Ins{Kind: api.InCall, D: d, A: none, B: none, Name: name}
	for _, e := range args {
		x.Args = append(x.Args, m.value(e))
	}
	m.add(x)
}
