package sample

import (
	"math"
	"slices"
	"strconv"
	"strings"

	"brazier/api"
)

// Unit is one that may be, though not one that does anything of use.
func (m *Maker) Unit() api.Unit {
	name := one(m, "f", "main", "k", "start", "_x1", "f1", strings.Repeat("x", 64))
	u := api.Unit{Name: name, Frame: one(m, 16, 32, 48, 4112, 1<<18, 16*(1+m.pick(1<<14)))}
	var places []string
	for n := range m.pick(4) {
		places = append(places, "."+name+"."+one(m, "", "x", ".", "_")+strconv.Itoa(n))
	}
	for range m.pick(8) {
		u.Lines = append(u.Lines, m.unitIns(append([]string{"f", "main", name}, places...)))
	}
	for _, sym := range places {
		u.Lines = slices.Insert(u.Lines, m.pick(len(u.Lines)+1), api.Line{Kind: api.LineLabel, Sym: sym})
	}
	u.Lines = slices.Insert(u.Lines, 0, api.Line{Kind: api.LineLabel, Sym: name})
	return u
}

// unitIns is an instruction: a jump goes to one of those places.
func (m *Maker) unitIns(to []string) api.Line {
	l := m.Op(1 + m.pick(Ops))
	switch {
	case l.Op == api.Jal:
		l.Sym, l.Num = one(m, to...), 0
	case (l.Op == api.Lui || l.Op == api.Addi) && m.pick(2) == 0:
		l.Sym, l.Num = m.Sym(), 0
	}
	return l
}

// BendUnit turns something of a unit: mostly it is none that may be any more.
func (m *Maker) BendUnit(u *api.Unit) {
	sym := one(m, "", "f", "g", "main", "int", "1x", ".", ".f", ".f.", ".f.x", ".f.0", ".main.0", ".g.0", "."+u.Name+".7", u.Name, u.Name+".0", "."+u.Name)
	at := m.pick(len(u.Lines) + 1)
	switch m.pick(8) {
	case 0:
		u.Name = one(m, "", "f", "g", "int", "1x", ".f", "a b", strings.Repeat("x", 65))
	case 1:
		u.Frame = one(m, 0, -16, 8, 15, 17, 24, 1<<18-8, 1<<18+16, math.MaxInt, math.MinInt, 1<<32+16)
	case 2:
		u.Lines = slices.Insert(u.Lines, at, api.Line{Kind: api.LineLabel, Sym: sym})
	case 3:
		u.Lines = slices.Insert(u.Lines, at, api.Line{Kind: api.LineIns, Op: api.Jal, Sym: sym})
	case 4:
		u.Lines = slices.Insert(u.Lines, at, m.Line())
	default:
		if at == len(u.Lines) {
			return
		}
		if m.pick(2) == 0 {
			m.BendLine(&u.Lines[at])
		} else {
			u.Lines = slices.Delete(u.Lines, at, at+1)
		}
	}
}

// CopyUnit shares nothing with u.
func CopyUnit(u api.Unit) api.Unit {
	u.Lines = slices.Clone(u.Lines)
	return u
}
