package asm_test

import (
	"math"
	"slices"
	"strings"
	"testing"

	"brazier/api"
	"brazier/asm"
	"brazier/sample"
)

// Rules 4 and 6: what is handed in stays as it is, its spare room too; answers are new memory.
func TestArgumentsStay(t *testing.T) {
	m := newMaker(4)
	for range rounds(2000) {
		a := m.Asm()
		a.Data = append(slices.Grow(a.Data, 2), api.Global{Name: "spare"})[:len(a.Data)]
		a.Lines = append(slices.Grow(a.Lines, 2), label("spare"))[:len(a.Lines)]
		kept := sample.CopyAsm(a)
		text := asm.Print(a)
		first, _, _ := asm.Parse(text)
		asm.May(a)
		asm.Same(a, first)
		clear(first.Data[:cap(first.Data)])
		clear(first.Lines[:cap(first.Lines)])
		if again, _, _ := asm.Parse(text); !same(again, kept) || !same(a, kept) || asm.Print(a) != text {
			t.Fatalf("%+v, %+v; was %+v", again, a, kept)
		}
		if a.Data[:len(a.Data)+1][len(a.Data)].Name != "spare" || a.Lines[:len(a.Lines)+1][len(a.Lines)].Sym != "spare" {
			t.Fatal("the spare room was used")
		}
	}
}

// Rule 1: any arguments have an answer.
func TestAnyArguments(t *testing.T) {
	m := newMaker(5)
	numbers := []int{math.MinInt, math.MinInt32, -1, 0, 1, 2, 31, 32, math.MaxInt32, math.MaxInt}
	texts := []string{"", "x", "1", "\x00", "\xff", "%hi()", "\n", strings.Repeat("é", 300)}
	for range rounds(5000) {
		l := api.Line{Kind: one(m, 1, 2, 2, 2, one(m, numbers...)), Op: one(m, m.Intn(33), one(m, numbers...)), D: one(m, numbers...), A: one(m, numbers...), B: one(m, numbers...), Num: int32(one(m, numbers...)), Sym: one(m, texts...)}
		a := api.Asm{Data: []api.Global{{Name: one(m, texts...), Size: one(m, numbers...)}}, Stack: one(m, numbers...), Lines: []api.Line{l, l}}
		text := asm.Print(a)
		if back, err, n := asm.Parse(text); (err == api.OK) != (n == 0) || err == api.OK && asm.Print(back) != text {
			t.Fatalf("%+v: %q, %d, %d", a, text, err, n)
		}
		if !asm.Same(a, a) || asm.May(a) && !asm.MayLine(l) {
			t.Fatalf("%+v", a)
		}
		asm.ParseLine(one(m, texts...) + asm.PrintLine(l))
		asm.IsSym(asm.Mnemonic(l.Op) + l.Sym)
	}
	if l, there := asm.ParseLine(strings.Repeat("\t, x(", 1<<16)); there || !isZero(l) {
		t.Error(l)
	}
}
