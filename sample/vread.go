package sample

import (
	"strings"

	"brazier/api"
	"brazier/asm"
)

// VOps is the ops that there are between virtual registers.
func VOps() []int {
	var out []int
	for op := api.Addi; op <= api.PBeqz; op++ {
		if VFields(op) != "" {
			out = append(out, op)
		}
	}
	return out
}

// VFields is what an op has between virtual registers, a letter each: the registers D, A, B, of which those of the machine's instructions, but for D, may be none (a, b), and D of a call (d); Num: of 12 bits with a sign (s), of 5 from 0 on (c), any (n), a place's (p); Name (N), Args (R). Empty of what there isn't.
func VFields(op int) string {
	switch {
	case op >= api.Addi && op <= api.Andi:
		return "Das"
	case op >= api.Slli && op <= api.Srai:
		return "Dac"
	case op >= api.Adds && op <= api.Rems:
		return "Dab"
	}
	switch op {
	case api.PLi:
		return "Dn"
	case api.PMv:
		return "DA"
	case api.PGet:
		return "DN"
	case api.PSet:
		return "NB"
	case api.PIdx:
		return "DNA"
	case api.PPut:
		return "NAB"
	case api.PCall:
		return "dNR"
	case api.PRead:
		return "D"
	case api.PPrint, api.PRet:
		return "A"
	case api.PLabel, api.PJump:
		return "p"
	case api.PBnez, api.PBeqz:
		return "Ap"
	}
	return ""
}

// VName is how the tests' tables write an op: of the machine's own as layer 17 has it.
func VName(op int) string {
	if op >= api.PLi && op <= api.PBeqz {
		return [...]string{"li", "mv", "get", "set", "idx", "put", "call", "read", "print", "ret", "label", "jump", "bnez", "beqz"}[op-api.PLi]
	}
	return asm.Mnemonic(op)
}

// Vfns reads functions between virtual registers: a line "vfn", the name, how many parameters and registers, then a line an instruction: its name, and what it has in the order of VFields, with blanks between; a - is a register that isn't there, and a ; may stand for a line end. Lines that aren't any are instructions of the op 0.
func Vfns(text string) []api.Vfn {
	var out []api.Vfn
	for _, line := range strings.FieldsFunc(text, func(c rune) bool { return c == ';' || c == '\n' }) {
		fields := strings.Fields(line)
		switch {
		case len(fields) == 0:
		case fields[0] == "vfn" && len(fields) == 4:
			out = append(out, api.Vfn{Name: fields[1], Params: number(fields[2]), Regs: number(fields[3])})
		case len(out) > 0:
			f := &out[len(out)-1]
			f.Code = append(f.Code, readVins(fields))
		}
	}
	return out
}

func readVins(fields []string) api.Vins {
	for _, op := range VOps() {
		if VName(op) == fields[0] {
			return readFields(op, fields[1:])
		}
	}
	return api.Vins{}
}

func readFields(op int, fields []string) api.Vins {
	x := api.Vins{Op: op, D: none, A: none, B: none}
	for _, has := range VFields(op) {
		if has == 'R' {
			for _, s := range fields {
				x.Args = append(x.Args, register(s))
			}
			return x
		}
		if len(fields) == 0 {
			return api.Vins{}
		}
		switch s := fields[0]; has {
		case 'D', 'd':
			x.D = register(s)
		case 'A', 'a':
			x.A = register(s)
		case 'B', 'b':
			x.B = register(s)
		case 'N':
			x.Name = s
		default:
			x.Num = int32(number(s))
		}
		fields = fields[1:]
	}
	if len(fields) > 0 {
		return api.Vins{}
	}
	return x
}
