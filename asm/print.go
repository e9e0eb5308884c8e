package asm

import (
	"strings"

	"brazier/api"
	"brazier/word"
)

// What stands between and around the parts of a line.
const (
	tab     = "\t"
	blank   = " "
	comma   = ", "
	colon   = ":"
	lineEnd = "\n"
)

// The first words of the lines that aren't the machine's.
const (
	wordLine  = ".word"
	stackLine = ".stack"
)

// mnemonics are by the instructions' numbers.
var mnemonics = [...]string{
	api.Lui: "lui", api.Addi: "addi", api.Slti: "slti", api.Sltiu: "sltiu", api.Xori: "xori", api.Ori: "ori", api.Andi: "andi", api.Slli: "slli", api.Srli: "srli", api.Srai: "srai",
	api.Adds: "add", api.Subs: "sub", api.Slls: "sll", api.Slts: "slt", api.Sltus: "sltu", api.Xors: "xor", api.Srls: "srl", api.Sras: "sra", api.Ors: "or", api.Ands: "and",
	api.Muls: "mul", api.Divs: "div", api.Rems: "rem", api.Lw: "lw", api.Sw: "sw", api.Beq: "beq", api.Bne: "bne", api.Jal: "jal", api.Jalr: "jalr", api.Ecall: "ecall",
}

// An operand is what stands behind a mnemonic.
type operand int

const (
	regD operand = iota
	regA         // a register by itself
	regB
	num   // Num, or what Sym makes of it
	place // Num, and A in brackets
)

func these(l ...operand) []operand { return l }

// operands is what an instruction has, in the order in which it is printed: false of a number that is none's.
func operands(op int) ([]operand, bool) {
	switch op {
	case api.Lui, api.Jal:
		return these(regD, num), true
	case api.Addi, api.Slti, api.Sltiu, api.Xori, api.Ori, api.Andi, api.Slli, api.Srli, api.Srai:
		return these(regD, regA, num), true
	case api.Adds, api.Subs, api.Slls, api.Slts, api.Sltus, api.Xors, api.Srls, api.Sras, api.Ors, api.Ands, api.Muls, api.Divs, api.Rems:
		return these(regD, regA, regB), true
	case api.Lw, api.Jalr:
		return these(regD, place), true
	case api.Sw:
		return these(regB, place), true
	case api.Beq, api.Bne:
		return these(regA, regB, num), true
	case api.Ecall:
		return these(), true
	}
	return nil, false
}

func insText(l api.Line) string {
	has, there := operands(l.Op)
	if !there {
		return ""
	}
	var texts []string
	for _, o := range has {
		texts = append(texts, operandText(l, o))
	}
	out := tab + Mnemonic(l.Op)
	if len(texts) > 0 {
		out += blank + strings.Join(texts, comma)
	}
	return out
}

func operandText(l api.Line, o operand) string {
	switch o {
	case regD:
		return register(l.D)
	case regA:
		return register(l.A)
	case regB:
		return register(l.B)
	case place:
		return numText(l) + "(" + register(l.A) + ")"
	}
	return numText(l)
}

func register(n int) string { return "x" + dec(n) }

// numText is Num, or what stands in its place.
func numText(l api.Line) string {
	if l.Sym == "" {
		return word.Dec(l.Num)
	}
	open, shut := brackets(l.Op)
	return open + l.Sym + shut
}

// brackets is what stands around a symbol: which part of its address is meant.
func brackets(op int) (open, shut string) {
	switch op {
	case api.Lui:
		return "%hi(", ")"
	case api.Addi:
		return "%lo(", ")"
	}
	return "", ""
}

func globalText(g api.Global) string { return wordLine + blank + g.Name + blank + dec(g.Size) }

func stackText(n int) string { return stackLine + blank + dec(n) }

// dec prints the word that is n modulo 2^32.
func dec(n int) string { return word.Dec(int32(n)) }
