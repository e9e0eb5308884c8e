package sample

import (
	"slices"
	"strconv"
	"strings"

	"brazier/api"
	"brazier/word"
)

// Blocks reads functions as layer 11 prints them, where a ; may stand for a line end: the tests' tables are written so. A name that looks like a register is one. Lines that aren't any are instructions of the kind 0.
func Blocks(text string) []api.Fn {
	var out []api.Fn
	for _, line := range strings.FieldsFunc(text, func(c rune) bool { return c == ';' || c == '\n' }) {
		fields := strings.Fields(line)
		switch {
		case len(fields) == 0:
		case fields[0] == "fn" && len(fields) == 4:
			out = append(out, api.Fn{Name: fields[1], Params: number(fields[2]), Regs: number(fields[3])})
		case len(out) > 0 && fields[0] == "block":
			f := &out[len(out)-1]
			f.Blocks = append(f.Blocks, api.Block{})
		case len(out) > 0 && len(out[len(out)-1].Blocks) > 0:
			blocks := out[len(out)-1].Blocks
			readInto(&blocks[len(blocks)-1], fields)
		}
	}
	return out
}

// Mid is a program of such functions, with the globals g and h, words, and a and b, arrays of three words and of one.
func Mid(text string) api.Mid {
	return api.Mid{Globals: []api.Global{{Name: "g"}, {Name: "h"}, {Name: "a", Size: 3}, {Name: "b", Size: 1}}, Fns: Blocks(text)}
}

func number(s string) int {
	n, _ := word.Parse(s)
	return int(n)
}

// register is the number of one: none of another text.
func register(s string) int {
	if n, err := strconv.Atoi(strings.TrimPrefix(s, "r")); err == nil && strings.HasPrefix(s, "r") {
		return n
	}
	return none
}

// readInto reads a block's end, or an instruction.
func readInto(b *api.Block, fields []string) {
	switch {
	case fields[0] == "jump" && len(fields) == 2:
		b.Kind, b.To = api.BlJump, number(fields[1])
	case fields[0] == "branch" && len(fields) == 4:
		b.Kind, b.A, b.To, b.Else = api.BlBranch, register(fields[1]), number(fields[2]), number(fields[3])
	case fields[0] == "return" && len(fields) == 2:
		b.Kind, b.A = api.BlReturn, register(fields[1])
	default:
		b.Ins = append(b.Ins, readIns(fields))
	}
}

func readIns(fields []string) api.Ins {
	at := slices.Index(fields, "=")
	if at < 0 {
		return readLone(fields)
	}
	left, right := fields[0], fields[at+1:]
	if at != 1 || len(right) == 0 {
		return api.Ins{}
	}
	if d := register(left); d >= 0 {
		return readRight(d, right)
	}
	name, index := indexed(left)
	return api.Ins{Kind: api.InStore, D: none, A: index, B: register(right[0]), Name: name}
}

// readLone reads an instruction that turns no register.
func readLone(fields []string) api.Ins {
	if fields[0] == "print" && len(fields) == 2 {
		return api.Ins{Kind: api.InPrint, D: none, A: register(fields[1]), B: none}
	}
	return called(none, fields)
}

// readRight reads what stands behind the = of a register.
func readRight(d int, fields []string) api.Ins {
	first := fields[0]
	a := register(first)
	switch {
	case first == "num" && len(fields) == 2:
		return api.Ins{Kind: api.InNum, D: d, A: none, B: none, Num: int32(number(fields[1]))}
	case first == "read":
		return api.Ins{Kind: api.InRead, D: d, A: none, B: none}
	case a >= 0 && len(fields) == 3:
		return api.Ins{Kind: api.InBin, Op: operator(fields[1], api.Add, api.Ne), D: d, A: a, B: register(fields[2])}
	case a >= 0:
		return api.Ins{Kind: api.InCopy, D: d, A: a, B: none}
	case operator(first[:1], api.Neg, api.Inv) > 0:
		return api.Ins{Kind: api.InUn, Op: operator(first[:1], api.Neg, api.Inv), D: d, A: register(first[1:]), B: none}
	case strings.Contains(first, "("):
		return called(d, fields)
	}
	name, index := indexed(first)
	return api.Ins{Kind: api.InLoad, D: d, A: index, B: none, Name: name}
}

// operator is the one of that sign among those numbers: 0 of another text.
func operator(sign string, from, to int) int {
	for op := from; op <= to; op++ {
		if word.Sign(op) == sign {
			return op
		}
	}
	return 0
}

// indexed reads Name, or Name[rA].
func indexed(s string) (string, int) {
	name, index, _ := strings.Cut(strings.TrimSuffix(s, "]"), "[")
	return name, register(index)
}

// called reads Name(rX, rY): an instruction of the kind 0, if that isn't what stands there.
func called(d int, fields []string) api.Ins {
	name, args, there := strings.Cut(strings.TrimSuffix(strings.Join(fields, ""), ")"), "(")
	if !there {
		return api.Ins{}
	}
	x := api.Ins{Kind: api.InCall, D: d, A: none, B: none, Name: name}
	for _, arg := range strings.FieldsFunc(args, func(c rune) bool { return c == ',' }) {
		x.Args = append(x.Args, register(arg))
	}
	return x
}
