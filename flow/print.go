package flow

import (
	"strings"

	"brazier/api"
	"brazier/word"
)

// Print: P11.4.
func Print(f api.Fn) string {
	var out strings.Builder
	line := func(texts ...string) {
		for _, s := range texts {
			out.WriteString(s)
		}
		out.WriteByte('\n')
	}
	line("fn ", f.Name, " ", dec(f.Params), " ", dec(f.Regs))
	for i, b := range f.Blocks {
		line("block ", dec(i))
		for _, x := range b.Ins {
			line("\t", insText(x))
		}
		line("\t", endText(b))
	}
	return out.String()
}

// dec prints the word that is n modulo 2^32.
func dec(n int) string { return word.Dec(int32(n)) }

func reg(n int) string { return "r" + dec(n) }

func insText(x api.Ins) string {
	switch x.Kind {
	case api.InStore:
		return element(x) + " = " + reg(x.B)
	case api.InCall:
		if x.D == none {
			return called(x)
		}
	case api.InPrint:
		return "print " + reg(x.A)
	}
	if s, turns := turned(x); turns {
		return reg(x.D) + " = " + s
	}
	return ""
}

// turned is what an instruction's register is turned into: false, if its kind turns none.
func turned(x api.Ins) (string, bool) {
	switch x.Kind {
	case api.InNum:
		return "num " + word.Dec(x.Num), true
	case api.InCopy:
		return reg(x.A), true
	case api.InUn:
		return word.Sign(x.Op) + reg(x.A), true
	case api.InBin:
		return reg(x.A) + " " + word.Sign(x.Op) + " " + reg(x.B), true
	case api.InLoad:
		return element(x), true
	case api.InCall:
		return called(x), true
	case api.InRead:
		return "read", true
	}
	return "", false
}

// element is a global's name, with the register of its index, if there is one.
func element(x api.Ins) string {
	if x.A == none {
		return x.Name
	}
	return x.Name + "[" + reg(x.A) + "]"
}

func called(x api.Ins) string {
	var args []string
	for _, n := range x.Args {
		args = append(args, reg(n))
	}
	return x.Name + "(" + strings.Join(args, ", ") + ")"
}

func endText(b api.Block) string {
	switch b.Kind {
	case api.BlJump:
		return "jump " + dec(b.To)
	case api.BlBranch:
		return "branch " + reg(b.A) + " " + dec(b.To) + " " + dec(b.Else)
	case api.BlReturn:
		return "return " + reg(b.A)
	}
	return ""
}
