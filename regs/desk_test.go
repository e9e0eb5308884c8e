package regs_test

import (
	"fmt"
	"slices"

	"brazier/api"
	"brazier/asm"
	"brazier/riscv"
	"brazier/sample"
)

// A desk runs a program of the machine instruction by instruction, and holds each against what layer 16 lets a function do: what it may not lean on is spoilt, and what it may not turn is looked at.
type desk struct {
	*riscv.Image
	frames map[string]int
	starts map[int32]string // functions by where they begin
	data   int32            // where Data ends
	regs   [32]int32
	memory map[int32]int32
	calls  []deskCall
	input  []int32
	told   api.Result
	spoilt int32
	wrong  string // what a function did that it may not
}

// A deskCall is a function that was entered and isn't left yet.
type deskCall struct {
	name   string
	pc     int32 // where it goes on when it is left
	before [32]int32
}

// kept is whether a register must be what it was when a function is left.
func kept(r int) bool { return r >= 2 && r <= 4 || r == 8 || r == 9 || r >= 18 && r <= 27 }

// desked runs a program; what is told of a run that went wrong stands in the second.
func desked(a api.Asm, m *riscv.Image, frames map[string]int, input []int32, fuel int) (api.Result, string) {
	d := &desk{Image: m, frames: frames, starts: map[int32]string{}, memory: map[int32]int32{}, input: input}
	for _, g := range a.Data {
		d.data += 4 * int32(max(g.Size, 1))
	}
	d.data += 65536
	for name := range frames {
		at, _ := m.At(name)
		d.starts[at] = name
	}
	for r := 1; r < 32; r++ {
		d.regs[r] = d.spoil()
	}
	pc, _ := m.At(".start")
	for d.told.End == 0 && d.wrong == "" {
		l, there := m.Line(int(pc / 4))
		if !there || pc%4 != 0 {
			return d.told, fmt.Sprintf("goes on at %d", pc)
		}
		if d.told.Steps >= fuel {
			d.told.End = api.EndOpen
			break
		}
		d.told.Steps++
		if pc = d.step(l, pc); d.wrong != "" {
			return d.told, fmt.Sprintf("%s: %s", d.wrong, asm.PrintLine(l))
		}
	}
	return d.told, d.wrong
}

// spoil is a word that nobody looks for.
func (d *desk) spoil() int32 {
	d.spoilt++
	return d.spoilt*7919 + 0x5a000000
}

// step answers where it goes on.
func (d *desk) step(l api.Line, pc int32) int32 {
	a, b := d.regs[l.A], d.regs[l.B]
	value, next := riscv.Step(l, a, b, pc)
	switch l.Op {
	case api.Lw:
		value = d.memory[d.may(a+l.Num)]
	case api.Sw:
		d.memory[d.may(a+l.Num)] = b
	case api.Ecall:
		d.ecall()
		return next
	}
	if l.D != 0 {
		d.regs[l.D] = value
	}
	switch l.Op {
	case api.Jal:
		if name, is := d.starts[next]; is && l.D == 1 {
			d.enter(name, pc+4)
		} else if is || l.D != 0 {
			d.wrong = "no call"
		}
	case api.Jalr:
		d.leave(next)
	}
	return next
}

// inside looks whether sp is what it is within a function.
func (d *desk) inside() {
	if n := len(d.calls); n > 0 {
		c := d.calls[n-1]
		if d.regs[2] != c.before[2]-int32(d.frames[c.name]) {
			d.wrong = "sp isn't a frame less"
		}
	}
}

// may is an address that a function may ask and turn.
func (d *desk) may(at int32) int32 {
	is := at >= 65536 && at < d.data
	if n := len(d.calls); n > 0 {
		c := d.calls[n-1]
		is = is || at < c.before[2] && at >= c.before[2]-int32(d.frames[c.name])
	}
	if !is || at%4 != 0 {
		d.wrong = fmt.Sprintf("not its own word, %d", at)
	}
	return at
}

// enter spoils what a function may not lean on.
func (d *desk) enter(name string, pc int32) {
	d.inside()
	for r := 5; r < 32; r++ {
		if !kept(r) && (r < 10 || r > 17) {
			d.regs[r] = d.spoil()
		}
	}
	for at := d.regs[2] - int32(d.frames[name]); at < d.regs[2]; at += 4 {
		d.memory[at] = d.spoil()
	}
	d.calls = append(d.calls, deskCall{name, pc, d.regs})
}

// leave looks at what a function must leave as it was, and spoils what its caller may not lean on.
func (d *desk) leave(pc int32) {
	c := d.calls[len(d.calls)-1]
	d.calls = d.calls[:len(d.calls)-1]
	if pc != c.pc {
		d.wrong = fmt.Sprintf("%s goes on elsewhere", c.name)
	}
	for r := range d.regs {
		switch {
		case kept(r) && d.regs[r] != c.before[r]:
			d.wrong = fmt.Sprintf("%s turned x%d", c.name, r)
		case r != 0 && r != 10 && !kept(r):
			d.regs[r] = d.spoil()
		}
	}
}

func (d *desk) ecall() {
	d.inside()
	switch d.regs[17] {
	case 1:
		d.told.Trace = append(d.told.Trace, d.regs[10])
	case 2:
		d.regs[10] = 0
		if n := d.told.Reads; n < len(d.input) {
			d.regs[10] = d.input[n]
			d.told.Reads++
		}
	case 3:
		d.told.End, d.told.Value = api.EndDone, d.regs[10]
	default:
		d.wrong = "asks for nothing that there is"
	}
}

// symbols looks whether lines have the names that they must have; it answers what is wrong.
func symbols(v api.Vfn, lines []api.Line, p sample.Vprog) string {
	if len(lines) == 0 || lines[0] != (api.Line{Kind: api.LineLabel, Sym: v.Name}) {
		return "doesn't begin with its name's place"
	}
	var labels, want []string
	for _, x := range v.Code {
		if x.Op == api.PLabel {
			want = append(want, fmt.Sprintf(".%s.%d", v.Name, x.Num))
		}
	}
	for _, l := range lines[1:] {
		global := slices.ContainsFunc(p.Globals, func(g api.Global) bool { return g.Name == l.Sym })
		function := slices.ContainsFunc(p.Fns, func(f api.Vfn) bool { return f.Name == l.Sym })
		switch {
		case !asm.MayLine(l):
			return fmt.Sprintf("%+v may not be", l)
		case l.Kind == api.LineLabel:
			labels = append(labels, l.Sym)
		case l.Op == api.Jal && l.D == 1 && !function, l.Op == api.Jal && l.D == 0 && !slices.Contains(want, l.Sym), l.Op == api.Jal && l.D > 1:
			return "a jump to nowhere: " + asm.PrintLine(l)
		case (l.Op == api.Lui || l.Op == api.Addi) && l.Sym != "" && !global:
			return "no global: " + asm.PrintLine(l)
		}
	}
	if !slices.Equal(labels, want) {
		return fmt.Sprintf("places %q, not %q", labels, want)
	}
	return ""
}
