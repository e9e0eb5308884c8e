package sample

import (
	"math"
	"slices"
	"strconv"

	"brazier/api"
)

// Vprog lays down globals and the heads of functions between virtual registers, of so many registers at most beside the parameters, then makes what these do.
func (m *Maker) Vprog(most int) Vprog {
	p := Vprog{m.globals(), []api.Vfn{{Name: "main", Regs: 1 + m.pick(most)}}}
	for _, name := range []string{"f", "k", "l"}[:m.pick(4)] {
		params := one(m, 0, 1, 2, 3, api.MaxParams)
		p.Fns = slices.Insert(p.Fns, m.pick(len(p.Fns)+1), api.Vfn{Name: name, Params: params, Regs: max(1, params+m.pick(most))})
	}
	for i := range p.Fns {
		v := &vmaker{Maker: m, p: p, f: &p.Fns[i]}
		v.fill()
	}
	return p
}

// Vfn is a function of such a program.
func (m *Maker) Vfn(most int) api.Vfn { return one(m, m.Vprog(most).Fns...) }

// A vmaker makes a function's code.
type vmaker struct {
	*Maker
	p      Vprog
	f      *api.Vfn
	places []int32 // the labels' numbers, in their order
}

func (m *vmaker) fill() {
	for n := range m.pick(6) {
		m.places = append(m.places, int32(n)+one[int32](m.Maker, 0, 10, 1000, math.MaxInt32-10)/10*10)
	}
	wide := m.pick(4) == 0 // are all of use from the front to the end?
	if wide {
		m.each(func(r int) api.Vins { return m.li(r, m.small()) })
	}
	m.stretch(0)
	for n, num := range m.places {
		m.f.Code = append(m.f.Code, api.Vins{Op: api.PLabel, D: none, A: none, B: none, Num: num})
		m.stretch(n + 1)
	}
	if len(m.places) > 0 && m.pick(5) == 0 {
		m.f.Code = append(m.f.Code, m.jump(api.PJump, 0))
	}
	if wide {
		m.each(func(r int) api.Vins { return api.Vins{Op: api.PPrint, D: none, A: r, B: none} })
	}
	m.f.Code = append(m.f.Code, api.Vins{Op: api.PRet, D: none, A: m.reg(), B: none})
}

// each appends an instruction for each register, from any of them on round about.
func (m *vmaker) each(of func(r int) api.Vins) {
	first := m.reg()
	for r := range m.f.Regs {
		m.f.Code = append(m.f.Code, of((first+r)%m.f.Regs))
	}
}

// stretch is some instructions, with ways on to the labels from that one on, mostly.
func (m *vmaker) stretch(next int) {
	for range m.pick(9) {
		op := one(m.Maker, VOps()...)
		switch {
		case op == api.PLabel, op == api.PRet && m.pick(4) > 0, op == api.PJump && m.pick(2) > 0:
			op = api.PBnez
			fallthrough
		case op == api.PJump, op == api.PBnez, op == api.PBeqz:
			if len(m.places) > 0 {
				m.f.Code = append(m.f.Code, m.jump(op, next))
			}
		default:
			m.f.Code = append(m.f.Code, m.vins(op)...)
		}
	}
}

func (m *vmaker) jump(op, next int) api.Vins {
	to := m.pick(len(m.places))
	if next < len(m.places) && m.pick(5) > 0 {
		to = next + m.pick(len(m.places)-next)
	}
	x := api.Vins{Op: op, D: none, A: none, B: none, Num: m.places[to]}
	if op != api.PJump {
		x.A = m.reg()
	}
	return x
}

func (m *vmaker) reg() int { return m.pick(m.f.Regs) }

func (m *vmaker) li(d int, n int32) api.Vins {
	return api.Vins{Op: api.PLi, D: d, A: none, B: none, Num: n}
}

// vins is an instruction, with a number ahead of what mostly goes by one.
func (m *vmaker) vins(op int) []api.Vins {
	x := api.Vins{Op: op, D: none, A: none, B: none}
	for _, has := range VFields(op) {
		m.give(&x, has)
	}
	switch {
	case (op == api.Divs || op == api.Rems) && x.B != none && m.pick(6) > 0:
		return []api.Vins{m.li(x.B, one[int32](m.Maker, 1, 2, -1, 7)), x}
	case (op == api.PIdx || op == api.PPut) && m.pick(6) > 0:
		return []api.Vins{m.li(x.A, int32(m.pick(3))), x}
	}
	return []api.Vins{x}
}

// give gives an instruction what a letter of VFields says.
func (m *vmaker) give(x *api.Vins, has rune) {
	perhaps := func() int { return max(none, m.pick(m.f.Regs+m.f.Regs/4+1)-m.f.Regs/4-1) }
	switch has {
	case 'D':
		x.D = m.reg()
	case 'd':
		x.D = perhaps()
	case 'A':
		x.A = m.reg()
	case 'a':
		x.A = perhaps()
	case 'B':
		x.B = m.reg()
	case 'b':
		x.B = perhaps()
	case 's', 'c':
		x.Num = m.numOf(byte(has))
	case 'n':
		x.Num = one(m.Maker, m.small(), m.small(), m.word(), 2047, 2048, -2048, -2049, 4096, -4096, math.MaxInt32, math.MinInt32)
	case 'N':
		x.Name = one(m.Maker, "g", "h")
		if x.Op == api.PIdx || x.Op == api.PPut {
			x.Name = one(m.Maker, "a", "b")
		}
	case 'R':
		to := one(m.Maker, m.p.Fns...)
		if to.Name == "main" {
			to = one(m.Maker, m.p.Fns...)
		}
		x.Name = to.Name
		for range to.Params {
			x.Args = append(x.Args, m.reg())
		}
	}
}

func copyVins(x api.Vins) api.Vins {
	x.Args = slices.Clone(x.Args)
	return x
}

// CopyVfn shares nothing with v.
func CopyVfn(v api.Vfn) api.Vfn {
	v.Code = Copied(v.Code, copyVins)
	return v
}

// BendVfn turns a number or a name of a function: mostly it is none that may be any more.
func (m *Maker) BendVfn(v *api.Vfn) {
	fields := []*int{&v.Params, &v.Regs}
	if len(v.Code) > 0 {
		at := m.pick(len(v.Code))
		x := &v.Code[at]
		fields = append(fields, &x.Op, &x.D, &x.A, &x.B)
		for i := range x.Args {
			fields = append(fields, &x.Args[i])
		}
		switch m.pick(10) {
		case 0:
			x.Num = one(m, -1, 0, 1, 5, 31, 32, 2048, -2049, math.MaxInt32, math.MinInt32, m.word())
			return
		case 1:
			x.Name = one(m, "", "g", "f", "int", "1x", ".f", strconv.Itoa(m.pick(9)))
			return
		case 2:
			v.Code = slices.Delete(v.Code, at, at+1)
			return
		case 3:
			x.Args = append(x.Args, m.pick(9)-1)
			return
		}
	}
	*one(m, fields...) = one(m, -2, -1, 0, 1, 5, 10, 40, 47, 4096, 4097, 65535, 65536, math.MaxInt, math.MinInt, m.pick(60))
}
