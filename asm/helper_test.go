package asm_test

import (
	"math/rand"
	"reflect"
	"slices"
	"strings"
	"testing"

	"brazier/api"
	"brazier/asm"
	"brazier/sample"
)

// A maker makes random lines and programs.
type maker struct {
	*rand.Rand
	*sample.Maker
}

func newMaker(seed int64) *maker {
	r := rand.New(rand.NewSource(seed))
	return &maker{Rand: r, Maker: sample.New(r.Intn)}
}

func rounds(n int) int {
	if testing.Short() {
		return n / 10
	}
	return n
}

func one[T any](m *maker, l ...T) T { return l[m.Intn(len(l))] }

// forms are how instructions are printed, by their numbers from 1 on: D, A, B are the registers, N is Num or what stands in its place.
func forms() []string {
	return []string{
		"lui xD, N", "addi xD, xA, N", "slti xD, xA, N", "sltiu xD, xA, N", "xori xD, xA, N", "ori xD, xA, N", "andi xD, xA, N", "slli xD, xA, N", "srli xD, xA, N", "srai xD, xA, N",
		"add xD, xA, xB", "sub xD, xA, xB", "sll xD, xA, xB", "slt xD, xA, xB", "sltu xD, xA, xB", "xor xD, xA, xB", "srl xD, xA, xB", "sra xD, xA, xB", "or xD, xA, xB", "and xD, xA, xB",
		"mul xD, xA, xB", "div xD, xA, xB", "rem xD, xA, xB", "lw xD, N(xA)", "sw xB, N(xA)", "beq xA, xB, N", "bne xA, xB, N", "jal xD, N", "jalr xD, N(xA)", "ecall",
	}
}

// same is whether all fields are the same, lists of nothing being one.
func same(a, b api.Asm) bool { return reflect.DeepEqual(bare(a), bare(b)) }

// bare is a copy in which what is empty is nil.
func bare(a api.Asm) api.Asm {
	return api.Asm{Data: append([]api.Global(nil), a.Data...), Stack: a.Stack, Lines: append([]api.Line(nil), a.Lines...)}
}

// isZero is of a line that goes with a false.
func isZero(l api.Line) bool { return l == api.Line{} }

func label(sym string) api.Line { return api.Line{Kind: api.LineLabel, Sym: sym} }

func ins(op, d, a, b int, num int32) api.Line {
	return api.Line{Kind: api.LineIns, Op: op, D: d, A: a, B: b, Num: num}
}

func withSym(l api.Line, sym string) api.Line {
	l.Num, l.Sym = 0, sym
	return l
}

// may tells of a line, and what that means for reading its printing.
func may(t *testing.T, l api.Line, want bool) {
	t.Helper()
	if got := asm.MayLine(l); got != want {
		t.Errorf("%+v: %v; want %v", l, got, want)
	}
	a := api.Asm{Lines: []api.Line{label("x"), l}}
	if got := asm.May(a); got != want {
		t.Errorf("a program with %+v: %v; want %v", l, got, want)
	}
	text := asm.PrintLine(l)
	back, there := asm.ParseLine(text)
	if want && (!there || back != l) {
		t.Errorf("%+v is printed %q and read %+v, %v", l, text, back, there)
	}
	if there && (asm.PrintLine(back) != text || !asm.MayLine(back)) || !there && !isZero(back) {
		t.Errorf("%q is read %+v, %v", text, back, there)
	}
}

// printed tells how a line is printed.
func printed(t *testing.T, l api.Line, want string) {
	t.Helper()
	if got := asm.PrintLine(l); got != want {
		t.Errorf("%+v: %q; want %q", l, got, want)
	}
}

// letters are the registers that an instruction has.
func letters(op int) string { return strings.Trim(sample.Fields(op), "uscbj") }

// numLetter is how its Num is told by sample.Fields: 0, if it has none.
func numLetter(op int) byte {
	fields := sample.Fields(op)
	if i := strings.IndexAny(fields, "uscbj"); i >= 0 {
		return fields[i]
	}
	return 0
}

// has is whether those fields have it.
func has(fields string, field byte) bool { return slices.Contains([]byte(fields), field) }
