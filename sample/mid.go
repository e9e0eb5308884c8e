package sample

import (
	"slices"

	"brazier/api"
)

// none is the number of a register that isn't there.
const none = -1

// Mid lays down globals and the heads of functions, then makes what these do.
func (m *Maker) Mid() api.Mid {
	m.m = api.Mid{Globals: m.globals(), Fns: []api.Fn{m.head("main", 0)}}
	for _, name := range []string{"f", "k", "l"}[:m.pick(4)] {
		m.m.Fns = slices.Insert(m.m.Fns, m.pick(len(m.m.Fns)+1), m.head(name, m.pick(4)))
	}
	for i := range m.m.Fns {
		m.fill(&m.m.Fns[i])
	}
	return m.m
}

// Fn is a function of such a Mid.
func (m *Maker) Fn() api.Fn { return one(m, m.Mid().Fns...) }

// head is a function without its blocks.
func (m *Maker) head(name string, params int) api.Fn {
	return api.Fn{Name: name, Params: params, Regs: max(params, 1) + m.pick(6)}
}

func (m *Maker) fill(f *api.Fn) {
	count := 1 + m.pick(7)
	for at := range count {
		b := m.end(f, at, count)
		for range m.pick(5) {
			b.Ins = append(b.Ins, m.ins(f)...)
		}
		f.Blocks = append(f.Blocks, b)
	}
}

func (m *Maker) reg(f *api.Fn) int { return m.pick(f.Regs) }

// end is how the block at that place ends: mostly it goes on to one behind it, the last is mostly left.
func (m *Maker) end(f *api.Fn, at, count int) api.Block {
	kind := one(m, api.BlJump, api.BlJump, api.BlBranch, api.BlBranch, api.BlBranch, api.BlReturn)
	if at == count-1 && m.pick(4) > 0 {
		kind = api.BlReturn
	}
	switch kind {
	case api.BlJump:
		return api.Block{Kind: kind, To: m.onTo(at, count)}
	case api.BlBranch:
		return api.Block{Kind: kind, A: m.reg(f), To: m.onTo(at, count), Else: m.onTo(at, count)}
	}
	return api.Block{Kind: kind, A: m.reg(f)}
}

func (m *Maker) onTo(at, count int) int {
	if at+1 < count && m.pick(5) > 0 {
		return at + 1 + m.pick(count-at-1)
	}
	return m.pick(count)
}

// ins is an instruction, or two: a number ahead of what mostly goes by one.
func (m *Maker) ins(f *api.Fn) []api.Ins {
	d, a, b := m.reg(f), m.reg(f), m.reg(f)
	n := m.small()
	if m.pick(4) == 0 {
		n = m.word()
	}
	num := api.Ins{Kind: api.InNum, D: a, A: none, B: none, Num: n}
	switch m.pick(14) {
	case 0, 1, 2:
		return []api.Ins{num}
	case 3:
		return []api.Ins{{Kind: api.InCopy, D: d, A: a, B: none}}
	case 4:
		return []api.Ins{{Kind: api.InUn, Op: api.Neg + m.pick(3), D: d, A: a, B: none}}
	case 5, 6, 7:
		return m.divided(api.Ins{Kind: api.InBin, Op: api.Add + m.pick(16), D: d, A: a, B: b})
	case 8:
		return m.memory(api.Ins{Kind: api.InLoad, D: d, A: a, B: none})
	case 9:
		return m.memory(api.Ins{Kind: api.InStore, D: none, A: a, B: b})
	case 10:
		return []api.Ins{m.call(f)}
	case 11:
		return []api.Ins{{Kind: api.InRead, D: d, A: none, B: none}}
	}
	return []api.Ins{{Kind: api.InPrint, D: none, A: a, B: none}}
}

// divided divides by any register now and then only.
func (m *Maker) divided(x api.Ins) []api.Ins {
	if x.Op != api.Div && x.Op != api.Rem || m.pick(5) == 0 {
		return []api.Ins{x}
	}
	return []api.Ins{{Kind: api.InNum, D: x.B, A: none, B: none, Num: one[int32](m, 1, 2, -1, 7)}, x}
}

// memory is a load or a store: of a word, or of an array's word that is mostly there.
func (m *Maker) memory(x api.Ins) []api.Ins {
	if m.pick(2) == 0 {
		x.A, x.Name = none, one(m, "g", "h")
		return []api.Ins{x}
	}
	x.Name = one(m, "a", "b")
	if m.pick(5) == 0 {
		return []api.Ins{x}
	}
	return []api.Ins{{Kind: api.InNum, D: x.A, A: none, B: none, Num: int32(m.pick(3))}, x}
}

// call is one of any function, mostly not of main.
func (m *Maker) call(f *api.Fn) api.Ins {
	to := one(m, m.m.Fns...)
	if to.Name == "main" {
		to = one(m, m.m.Fns...)
	}
	x := api.Ins{Kind: api.InCall, D: m.pick(f.Regs+1) - 1, A: none, B: none, Name: to.Name}
	for range to.Params {
		x.Args = append(x.Args, m.reg(f))
	}
	return x
}
