package riscv

import "brazier/api"

// The registers that an Ecall asks: what it is to do, and with which word.
const (
	what = 17
	with = 10
)

// What an Ecall may be told to do.
const (
	toPrint = 1
	toRead  = 2
	toEnd   = 3
)

// An ending is how a run ends.
type ending int

// A machine runs an image.
type machine struct {
	lines  []api.Line
	regs   [32]int32
	memory []int32
	pc     int32
	input  []int32
	fuel   int
	told   api.Result // what there is to tell of the run so far
}

// started is a machine that has done nothing yet.
func (m *Image) started(input []int32, fuel int) *machine {
	begin, _ := m.At(".start")
	return &machine{lines: m.lines, memory: make([]int32, m.words), pc: begin, input: input, fuel: fuel}
}

// step does the next instruction. One that isn't there is no step: so it is looked for ahead of what fuel there is.
func (x *machine) step() {
	if x.pc < 0 || x.pc%insBytes != 0 || int(x.pc/insBytes) >= len(x.lines) {
		panic(ending(api.EndFault))
	}
	if x.told.Steps >= x.fuel {
		panic(ending(api.EndOpen))
	}
	x.told.Steps++
	l := &x.lines[x.pc/insBytes]
	a, b := x.regs[l.A], x.regs[l.B]
	d, next := Step(*l, a, b, x.pc)
	switch l.Op {
	case api.Lw:
		d = *x.word(a + l.Num)
	case api.Sw:
		*x.word(a + l.Num) = b
	case api.Ecall:
		x.call()
	}
	x.pc = next
	if l.D != 0 {
		x.regs[l.D] = d
	}
}

// word is the one of an address.
func (x *machine) word(at int32) *int32 {
	n := (int64(at) - firstWord) / wordBytes
	if at < firstWord || at%wordBytes != 0 || n >= int64(len(x.memory)) {
		panic(ending(api.EndFault))
	}
	return &x.memory[n]
}

// call does what an Ecall asks for.
func (x *machine) call() {
	switch x.regs[what] {
	case toPrint:
		x.told.Trace = append(x.told.Trace, x.regs[with])
	case toRead:
		x.regs[with] = x.read()
	case toEnd:
		x.told.Value = x.regs[with]
		panic(ending(api.EndDone))
	default:
		panic(ending(api.EndFault))
	}
}

// read is the next word of the input: behind the last one there is always a 0 to be had.
func (x *machine) read() int32 {
	at := x.told.Reads
	if at == len(x.input) {
		return 0
	}
	x.told.Reads++
	return x.input[at]
}
