package sample

import (
	"math"

	"brazier/api"
)

// Graph is a function of so many blocks at most, without instructions, that go on to any.
func (m *Maker) Graph(most int) api.Fn {
	f := api.Fn{Name: "f", Regs: 1}
	count := 1 + m.pick(most)
	for range count {
		b := api.Block{Kind: one(m, api.BlJump, api.BlJump, api.BlBranch, api.BlBranch, api.BlBranch, api.BlBranch, api.BlBranch, api.BlReturn)}
		if b.Kind != api.BlReturn {
			b.To = m.pick(count)
		}
		if b.Kind == api.BlBranch {
			b.Else = m.pick(count)
		}
		f.Blocks = append(f.Blocks, b)
	}
	return f
}

// Bend turns a number of a function: mostly it is none that may be any more.
func (m *Maker) Bend(f *api.Fn) {
	fields := []*int{&f.Params, &f.Regs}
	if len(f.Blocks) > 0 {
		b := &f.Blocks[m.pick(len(f.Blocks))]
		fields = append(fields, &b.Kind, &b.A, &b.To, &b.Else)
		if len(b.Ins) > 0 {
			x := &b.Ins[m.pick(len(b.Ins))]
			fields = append(fields, &x.Kind, &x.Op, &x.D, &x.A, &x.B)
			for i := range x.Args {
				fields = append(fields, &x.Args[i])
			}
		}
	}
	*one(m, fields...) = one(m, -2, -1, 0, 1, 5, 10, 4096, 65535, 65536, math.MaxInt, math.MinInt, m.pick(20))
}
