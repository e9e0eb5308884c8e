package regs

import (
	"brazier/api"
	"brazier/word"
)

// Registers of the machine.
const (
	zero    = 0 // is always 0
	ra      = 1 // where the function goes on when it is left
	sp      = 2 // the stack's top
	first   = 5 // what isn't kept, for what is in a slot
	second  = 6
	address = 7
	s1      = 9  // the spot 0
	a0      = 10 // the first argument; what a function answers, what is printed or read
	a7      = 17 // what an Ecall is to do
	s2      = 18 // the spot 1
	base    = 28 // the first of four for addresses in a great frame
)

// What an Ecall may be told to do.
const (
	toPrint = 1
	toRead  = 2
)

// How many bytes an instruction has, and a word.
const (
	insBytes  = 4
	wordBytes = 4
)

// A list is lines of the machine's program, one behind the other.
type list []api.Line

func (l *list) add(lines ...api.Line) { *l = append(*l, lines...) }

func (l *list) label(sym string) { l.add(api.Line{Kind: api.LineLabel, Sym: sym}) }

// between is an instruction of registers alone.
func (l *list) between(op, d, a, b int) {
	l.add(api.Line{Kind: api.LineIns, Op: op, D: d, A: a, B: b})
}

// withNum is an instruction of one register and a number.
func (l *list) withNum(op, d, a int, n int32) {
	l.add(api.Line{Kind: api.LineIns, Op: op, D: d, A: a, Num: n})
}

// move is nothing, if a register is to have its own word.
func (l *list) move(d, a int) {
	if d != a {
		l.withNum(api.Addi, d, a, 0)
	}
}

// number lets d be n.
func (l *list) number(d int, n int32) {
	if word.Fits(n, 12) {
		l.withNum(api.Addi, d, zero, n)
		return
	}
	high, low := word.Split(n)
	l.withNum(api.Lui, d, zero, high)
	if low != 0 {
		l.withNum(api.Addi, d, d, low)
	}
}

// plus adds n to d.
func (l *list) plus(d int, n int32) {
	if word.Fits(n, 12) {
		l.withNum(api.Addi, d, d, n)
		return
	}
	l.number(first, n)
	l.between(api.Adds, d, d, first)
}

// addressOf lets the address's register have a global's.
func (l *list) addressOf(global string) {
	l.add(
		api.Line{Kind: api.LineIns, Op: api.Lui, D: address, Sym: global},
		api.Line{Kind: api.LineIns, Op: api.Addi, D: address, A: address, Sym: global},
	)
}

func (l *list) load(d, a int, n int32) { l.withNum(api.Lw, d, a, n) }

func (l *list) store(b, a int, n int32) {
	l.add(api.Line{Kind: api.LineIns, Op: api.Sw, A: a, B: b, Num: n})
}

// jump leaves in d where it would go on.
func (l *list) jump(d int, sym string) {
	l.add(api.Line{Kind: api.LineIns, Op: api.Jal, D: d, Sym: sym})
}

// unless goes past the next instruction, if op says so of a and 0.
func (l *list) unless(op, a int) {
	l.add(api.Line{Kind: api.LineIns, Op: op, A: a, B: zero, Num: 2 * insBytes})
}

// ecall asks for what is done outside.
func (l *list) ecall(what int32) {
	l.number(a7, what)
	l.add(api.Line{Kind: api.LineIns, Op: api.Ecall})
}
