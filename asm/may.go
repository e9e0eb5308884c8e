package asm

import (
	"slices"

	"brazier/api"
	"brazier/lexer"
	"brazier/word"
)

// How many bytes a symbol has at most.
const maxSym = 100

// How many bytes of stack a program has at most.
const maxStack = 1 << 24

// How many registers there are.
const registers = 32

// letter is one of those that may be first in a symbol.
func letter(c byte) bool {
	return c >= 'a' && c <= 'z' || c >= 'A' && c <= 'Z' || c == '_' || c == '.'
}

func digit(c byte) bool { return c >= '0' && c <= '9' }

// label is a place's line.
func label(sym string) api.Line { return api.Line{Kind: api.LineLabel, Sym: sym} }

// mayRegisters: those that an instruction has are the machine's, the others 0.
func mayRegisters(l api.Line, has []operand) bool {
	may := func(n int, had ...operand) bool {
		for _, o := range had {
			if slices.Contains(has, o) {
				return n >= 0 && n < registers
			}
		}
		return n == 0
	}
	return may(l.D, regD) && may(l.A, regA, place) && may(l.B, regB)
}

// mayNum goes by how many bits the machine has for it.
func mayNum(l api.Line) bool {
	switch l.Op {
	case api.Lui:
		return l.Num >= 0 && l.Num < 1<<20
	case api.Addi, api.Slti, api.Sltiu, api.Xori, api.Ori, api.Andi, api.Lw, api.Sw, api.Jalr:
		return word.Fits(l.Num, 12)
	case api.Slli, api.Srli, api.Srai:
		return l.Num >= 0 && l.Num < 32
	case api.Beq, api.Bne:
		return word.Fits(l.Num, 13) && l.Num%2 == 0
	case api.Jal:
		return word.Fits(l.Num, 21) && l.Num%2 == 0
	}
	return l.Num == 0
}

// maySym: a symbol is what Num would be.
func maySym(l api.Line) bool {
	switch l.Op {
	case api.Lui, api.Addi, api.Jal:
		return l.Sym == "" || IsSym(l.Sym) && l.Num == 0
	}
	return l.Sym == ""
}

func mayGlobal(g api.Global) bool {
	return lexer.IsName(g.Name) && g.Size >= 0 && g.Size <= api.MaxWords
}

func mayStack(n int) bool { return n >= 0 && n <= maxStack }

func all[T any](l []T, may func(T) bool) bool {
	return !slices.ContainsFunc(l, func(x T) bool { return !may(x) })
}
