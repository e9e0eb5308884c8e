package riscv

import (
	"brazier/api"
	"brazier/word"
)

func branched(is bool, l api.Line, pc int32) int32 {
	if is {
		return pc + l.Num
	}
	return pc + insBytes
}

// reckoned is what an instruction makes of two words: 0, if it makes nothing of them.
func reckoned(op int, a, b int32) int32 {
	switch op {
	case api.Sltiu, api.Sltus:
		return truth(uint32(a) < uint32(b))
	case api.Srli, api.Srls:
		return int32(uint32(a) >> (uint32(b) % 32))
	}
	n, ok := word.Bin(operator(op), a, b)
	switch {
	case !ok && op == api.Divs:
		return -1
	case !ok && op == api.Rems:
		return a
	}
	return n
}

func truth(is bool) int32 {
	if is {
		return 1
	}
	return 0
}

// operator is layer 1's that an instruction is: 0, if it is none of them.
func operator(op int) int {
	switch op {
	case api.Addi, api.Adds:
		return api.Add
	case api.Subs:
		return api.Sub
	case api.Slti, api.Slts:
		return api.Lt
	case api.Xori, api.Xors:
		return api.Xor
	case api.Ori, api.Ors:
		return api.Or
	case api.Andi, api.Ands:
		return api.And
	case api.Slli, api.Slls:
		return api.Shl
	case api.Srai, api.Sras:
		return api.Shr
	case api.Muls:
		return api.Mul
	case api.Divs:
		return api.Div
	case api.Rems:
		return api.Rem
	}
	return 0
}
