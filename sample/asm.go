package sample

import (
	"math"
	"slices"
	"strings"

	"brazier/api"
)

// Ops is how many instructions the machine has: they are numbered from 1 on.
const Ops = api.Ecall

// Fields is what an instruction has, a letter each: the registers D, A, B; and Num: of 20 bits from 0 on (u), of 12 with a sign (s), of 5 from 0 on (c), of 13 (b) and of 21 (j) with a sign, even.
func Fields(op int) string {
	switch {
	case op == api.Lui:
		return "Du"
	case op >= api.Addi && op <= api.Andi, op == api.Lw, op == api.Jalr:
		return "DAs"
	case op >= api.Slli && op <= api.Srai:
		return "DAc"
	case op >= api.Adds && op <= api.Rems:
		return "DAB"
	case op == api.Sw:
		return "ABs"
	case op == api.Beq, op == api.Bne:
		return "ABb"
	case op == api.Jal:
		return "Dj"
	}
	return ""
}

// Range is from where to where Num goes by a letter of Fields, and by what: from 0 to 0 by one of a register.
func Range(field byte) (from, to, by int32) {
	switch field {
	case 'u':
		return 0, 1<<20 - 1, 1
	case 's':
		return -1 << 11, 1<<11 - 1, 1
	case 'c':
		return 0, 31, 1
	case 'b':
		return -1 << 12, 1<<12 - 2, 2
	case 'j':
		return -1 << 20, 1<<20 - 2, 2
	}
	return 0, 0, 1
}

// Op is one of that number that may be, without a symbol.
func (m *Maker) Op(op int) api.Line {
	l := api.Line{Kind: api.LineIns, Op: op}
	for _, field := range []byte(Fields(op)) {
		n := m.machineReg()
		switch field {
		case 'D':
			l.D = n
		case 'A':
			l.A = n
		case 'B':
			l.B = n
		default:
			l.Num = m.numOf(field)
		}
	}
	return l
}

func (m *Maker) machineReg() int { return one(m, 0, 1, 2, 5, 10, 17, 30, 31, m.pick(32), m.pick(32)) }

// numOf is mostly near 0 or an end.
func (m *Maker) numOf(field byte) int32 {
	from, to, by := Range(field)
	count := int((to-from)/by) + 1
	near := by * int32(m.pick(min(count, 9)))
	return one(m, from+near, to-near, max(from, -near), min(to, near), from+by*int32(m.pick(count)))
}

// Line is one that may be: a label, or an instruction, with a symbol where it may have one.
func (m *Maker) Line() api.Line {
	if m.pick(6) == 0 {
		return api.Line{Kind: api.LineLabel, Sym: m.Sym()}
	}
	l := m.Op(1 + m.pick(Ops))
	switch l.Op {
	case api.Lui, api.Addi, api.Jal:
		if m.pick(2) == 0 {
			l.Sym, l.Num = m.Sym(), 0
		}
	}
	return l
}

// Sym is a symbol, mostly a short one.
func (m *Maker) Sym() string {
	const first = "abcxyzABCXYZ_._.._f"
	const more = first + "0123456789"
	if m.pick(3) == 0 {
		return one(m, ".start", "main", "g", "a", ".main.0", "x1", ".", "_", "lui", "hi", strings.Repeat("x", 100))
	}
	out := []byte{first[m.pick(len(first))]}
	for range m.pick(one(m, 1, 4, 100)) {
		out = append(out, more[m.pick(len(more))])
	}
	return string(out)
}

// Asm is a program that may be, though not one that can be loaded.
func (m *Maker) Asm() api.Asm {
	a := api.Asm{Stack: one(m, 0, 1, 16, 512, 1<<24, m.pick(1<<24+1))}
	for range m.pick(4) {
		a.Data = append(a.Data, api.Global{Name: one(m, "g", "h", "a", "b", "_x1"), Size: one(m, 0, 1, 2, api.MaxWords, m.pick(api.MaxWords+1))})
	}
	for range m.pick(8) {
		a.Lines = append(a.Lines, m.Line())
	}
	return a
}

// BendLine turns a field of a line: mostly it is none that may be any more.
func (m *Maker) BendLine(l *api.Line) {
	number := one(m, -2, -1, 0, 1, 2, 3, 31, 32, 33, math.MaxInt, math.MinInt, 1<<32, 1<<32+1, m.pick(32))
	switch m.pick(7) {
	case 0:
		l.Kind = number
	case 1:
		l.Op = number
	case 2:
		l.D = number
	case 3:
		l.A = number
	case 4:
		l.B = number
	case 5:
		l.Num = one(m, -1, 1, 2, 3, 32, 2047, 2048, -2048, -2049, 4094, 4095, 4096, -4096, -4098, 1<<20-2, 1<<20-1, 1<<20, -1<<20, -1<<20-2, math.MaxInt32, math.MinInt32, l.Num+1, l.Num-1, m.word())
	default:
		l.Sym = one(m, "", "x", "1x", "a b", "x:", "%", "é", strings.Repeat("x", 101), l.Sym+"\n", m.Sym())
	}
}

// BendAsm turns one of the numbers, names and lines of a program, or lays a line's copy in.
func (m *Maker) BendAsm(a *api.Asm) {
	switch m.pick(6) {
	case 0:
		a.Stack = one(m, -1, 0, 1<<24, 1<<24+1, math.MaxInt, math.MinInt, 1<<32)
	case 1:
		a.Data = append(a.Data, api.Global{Name: one(m, "g", "int", "1x", "", "a b", ".g", "a-b"), Size: m.pick(3)})
	case 2:
		a.Data = append(a.Data, api.Global{Name: "g", Size: one(m, -1, api.MaxWords, api.MaxWords+1, math.MaxInt, math.MinInt, 1<<32)})
	case 3:
		a.Lines = append(a.Lines, api.Line{})
	default:
		if len(a.Lines) > 0 {
			m.BendLine(&a.Lines[m.pick(len(a.Lines))])
		}
	}
}

// CopyAsm shares nothing with a.
func CopyAsm(a api.Asm) api.Asm {
	return api.Asm{Data: slices.Clone(a.Data), Stack: a.Stack, Lines: slices.Clone(a.Lines)}
}
