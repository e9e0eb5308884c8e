package link

import (
	"brazier/api"
	"brazier/word"
)

// Registers of the machine.
const (
	zero = 0  // is always 0
	ra   = 1  // where a function goes on when it is left
	sp   = 2  // the stack's top
	a7   = 17 // what an Ecall is to do
)

// toEnd is what an Ecall is told that ends the program: with a0, in which main left its value.
const toEnd = 3

// firstWord is the address of the first word of Data.
const firstWord = 65536

const wordBytes = 4

// A program is one of the machine's that is being laid down.
type program struct{ api.Asm }

// add lays lines behind the others.
func (x *program) add(lines ...api.Line) { x.Lines = append(x.Lines, lines...) }

// end is the address behind all Data and Stack. A stack of MaxCalls frames is a multiple of a word's bytes, whatever the frames are.
func (x *program) end() int32 {
	words := 0
	for _, g := range x.Data {
		words += max(g.Size, 1)
	}
	return int32(firstWord + wordBytes*words + x.Stack)
}

// begin lets the stack be empty, calls main, and ends.
func (x *program) begin() {
	high, low := word.Split(x.end())
	x.add(
		api.Line{Kind: api.LineLabel, Sym: ".start"},
		api.Line{Kind: api.LineIns, Op: api.Lui, D: sp, Num: high},
		api.Line{Kind: api.LineIns, Op: api.Addi, D: sp, A: sp, Num: low},
		api.Line{Kind: api.LineIns, Op: api.Jal, D: ra, Sym: "main"},
		api.Line{Kind: api.LineIns, Op: api.Addi, D: a7, A: zero, Num: toEnd},
		api.Line{Kind: api.LineIns, Op: api.Ecall},
	)
}
