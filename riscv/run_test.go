package riscv_test

import (
	"fmt"
	"slices"
	"strings"
	"testing"

	"brazier/api"
	"brazier/riscv"
)

// P18.3: steps, and fuel.
func TestRunFuel(t *testing.T) {
	const text = "addi x10, x0, 7; addi x17, x0, 3; ecall"
	for fuel, want := range map[int]api.Result{-1 << 63: open("", 0, 0), -1: open("", 0, 0), 0: open("", 0, 0), 1: open("", 1, 0), 2: open("", 2, 0), 3: done(7, "", 3, 0), 4: done(7, "", 3, 0), 1<<63 - 1: done(7, "", 3, 0)} {
		ends(t, text, "", fuel, want)
	}
	ends(t, "on: jal x0, on", "", 1000, open("", 1000, 0))
	ends(t, "addi x17, x0, 1; on: addi x10, x10, 1; ecall; jal x0, on", "", 9, open("1 2 3", 9, 0))
	ends(t, "addi x17, x0, 1; on: addi x10, x10, 1; ecall; jal x0, on", "", 8, open("1 2", 8, 0))
	ends(t, "addi x17, x0, 2; ecall; ecall", "4 5 6", 2, open("", 2, 1))
}

// P18.3: where it begins.
func TestRunStart(t *testing.T) {
	ends(t, "addi x10, x0, 1; .start: addi x10, x10, 2; start:"+leaves, "", plenty, done(2, "", 3, 0))
	ends(t, "addi x10, x0, 1; start: addi x10, x10, 2; main: _start:"+leaves, "", plenty, done(3, "", 4, 0))
	ends(t, ".start: addi x10, x10, 2"+leaves, "", plenty, done(2, "", 3, 0))
	ends(t, "addi x10, x10, 2; ecall; .start:", "", plenty, fault("", 0, 0))
}

// P18.3: what is no instruction's address is no step, whatever the fuel.
func TestRunOff(t *testing.T) {
	for _, fuel := range []int{-1, 0, 1, 100} {
		ends(t, "", "1", fuel, fault("", 0, 0))
		ends(t, "x: .start:", "1", fuel, fault("", 0, 0))
	}
	ends(t, "addi x1, x0, 1", "", 0, open("", 0, 0))
	for _, fuel := range []int{1, 2, 100} {
		for _, text := range []string{"addi x1, x0, 1", "jal x0, 2", "jal x0, 6", "jal x0, 8; ecall", "jal x0, -4", "jal x0, -2", "jal x1, 1048574", "jal x1, -1048576", "jalr x0, 2(x0)", "jalr x0, -1(x0)", "jalr x0, -4(x0)", "jalr x0, 4(x0)", "jalr x0, 3(x0); ecall", "beq x0, x0, 2", "beq x1, x2, -4", "bne x0, x0, 0", "beq x0, x0, 8; ecall", "lui x1, 524288", ".word g 0; .stack 0; jal x0, g"} {
			ends(t, text, "", fuel, fault("", 1, 0))
		}
	}
	ends(t, "lui x1, 524288; jalr x0, 0(x1)", "", plenty, fault("", 2, 0))
	ends(t, "lui x1, 16; jalr x0, 0(x1)", "", plenty, fault("", 2, 0))
	ends(t, "jalr x0, 5(x0); jal x0, 1048574", "", plenty, fault("", 2, 0))
}

// P18.3: instructions and Data may have the same addresses, and are apart.
func TestRunLongCode(t *testing.T) {
	a := program(t, ".word g 0; .stack 0; .start: lui x5, %hi(g); lw x6, 0(x5); bne x6, x0, 8; jalr x0, 0(x5); ecall")
	for len(a.Lines) <= 65536/4 {
		a.Lines = append(a.Lines, api.Line{Kind: api.LineIns, Op: api.Ecall})
	}
	a.Lines = append(a.Lines, program(t, "there: addi x10, x0, 9; sw x10, 0(x5); lw x10, 0(x5); addi x17, x0, 3; ecall").Lines...)
	m := image(t, a)
	at(t, m, "there", 65536, true)
	at(t, m, "g", 65536, true)
	if got := m.Run(nil, plenty); !equal(got, done(9, "", 9, 0)) {
		t.Errorf("%+v", got)
	}
}

// P18.3: which words there are.
func TestRunMemory(t *testing.T) {
	// The word at the address in x5, which is %s, is asked and turned.
	const asks, turns = "lui x5, 16; addi x5, x5, %d; lw x10, %d(x5)" + leaves, "lui x5, 16; addi x5, x5, %d; addi x6, x0, 5; sw x6, %d(x5); lw x10, %d(x5)" + leaves
	for _, c := range []struct {
		head string
		size int
	}{{".stack 0;", 0}, {".stack 1;", 4}, {".stack 3;", 4}, {".stack 4;", 4}, {".stack 5;", 8}, {".stack 8;", 8}, {".word g 0; .stack 0;", 4}, {".word g 1; .stack 0;", 4}, {".word g 2; .word h 0; .stack 2;", 16}, {".word g 0; .word h 0; .word a 10; .stack 12;", 60}} {
		for _, offset := range []int{-2048, -8, -5, -4, -1, 0, 1, 2, 3, 4, 5, 6, 8, 12, 13, 16, 20, 52, 55, 56, 57, 60, 64, 2044} {
			for _, shift := range []int{0, 4, 1, -40} {
				there := offset >= 0 && offset < c.size && offset%4 == 0
				first, second := fault("", 3, 0), fault("", 4, 0)
				if there {
					first, second = done(0, "", 5, 0), done(5, "", 7, 0)
				}
				rest := offset - shift
				if rest < -2048 || rest > 2047 {
					continue
				}
				ends(t, c.head+fmt.Sprintf(asks, shift, rest), "", plenty, first)
				ends(t, c.head+fmt.Sprintf(turns, shift, rest, rest), "", plenty, second)
			}
		}
	}
	ends(t, ".stack 16; lui x5, 0; lw x0, 0(x5)", "", plenty, fault("", 2, 0))
	ends(t, ".stack 16; lui x5, 524288; sw x0, -4(x5)", "", plenty, fault("", 2, 0))
	ends(t, ".stack 16; lui x5, 1048560; lw x0, 0(x5)", "", plenty, fault("", 2, 0))
	ends(t, ".stack 16777216; lui x5, 4112; addi x6, x0, 3; sw x6, -4(x5); lw x10, -4(x5)"+leaves, "", plenty, done(3, "", 6, 0))
	ends(t, ".stack 16777216; lui x5, 4112; sw x6, 0(x5)", "", plenty, fault("", 2, 0))
	ends(t, ".stack 16777213; lui x5, 4112; sw x6, -4(x5); lw x0, 0(x5)", "", plenty, fault("", 3, 0))
}

// P18.3: words are apart, and stay.
func TestRunWords(t *testing.T) {
	ends(t, ".word g 0; .word a 2; .stack 4; lui x5, %hi(g); lui x6, %hi(a); addi x6, x6, %lo(a); addi x1, x0, 11; sw x1, 0(x5); addi x1, x0, 12; sw x1, 0(x6); addi x1, x0, 13; sw x1, 4(x6); addi x1, x0, -14; sw x1, 8(x6); addi x17, x0, 1; lw x10, 12(x5); ecall; lw x10, 8(x5); ecall; lw x10, 4(x5); ecall; lw x10, 0(x5); ecall; sw x0, 4(x5); lw x10, 4(x5); ecall; lw x10, 8(x5); ecall", "", plenty, fault("-14 13 12 11 0 13", 25, 0))
}

// P18.3: what an Ecall does.
func TestRunEcall(t *testing.T) {
	ends(t, "addi x17, x0, 1; ecall; addi x10, x0, -5; ecall; ecall; addi x10, x0, 6"+leaves, "9", plenty, done(6, "0 -5 -5", 8, 0))
	ends(t, "addi x17, x0, 2; ecall; addi x17, x0, 1; ecall; addi x17, x0, 2; ecall; addi x17, x0, 1; ecall; addi x17, x0, 2; ecall; addi x17, x0, 1; ecall"+leaves, "9 -8", plenty, done(0, "9 -8 0", 14, 2))
	ends(t, "addi x10, x0, 3; addi x17, x0, 2; ecall"+leaves, "", plenty, done(0, "", 5, 0))
	ends(t, "addi x10, x0, 3; addi x17, x0, 2; ecall"+leaves, "-2147483648 1", plenty, done(least, "", 5, 1))
	for _, n := range []int{0, 4, 5, 6, 7, 8, 10, 93, -1, -3, 2047, -2048} {
		ends(t, fmt.Sprintf("addi x17, x0, 1; ecall; addi x17, x0, %d; ecall; ecall", n), "1", plenty, fault("0", 4, 0))
	}
	ends(t, "lui x17, 4096; addi x17, x17, 1; ecall", "", plenty, fault("", 3, 0))
}

// P18.3: registers are 0 at first, and the first one stays 0.
func TestRunRegisters(t *testing.T) {
	var text strings.Builder
	text.WriteString("addi x17, x17, 1")
	for n := range 32 {
		if n != 17 && n != 10 {
			fmt.Fprintf(&text, "; add x10, x0, x%d; ecall", n)
		}
	}
	ends(t, text.String()+leaves, "", plenty, done(0, strings.Repeat("0 ", 30), 63, 0))
	text.Reset()
	for n := range 32 {
		fmt.Fprintf(&text, "addi x%d, x0, %d;", n, n+100)
	}
	text.WriteString("addi x17, x0, 1; ecall")
	for n := range 32 {
		if n != 17 && n != 10 {
			fmt.Fprintf(&text, "; add x10, x0, x%d; ecall", n)
		}
	}
	var want []string
	for n := range 32 {
		if n != 17 && n != 10 {
			want = append(want, fmt.Sprint(n+100))
		}
	}
	want[0] = "0"
	ends(t, text.String()+"; addi x10, x0, 2"+leaves, "", plenty, done(2, "110 "+strings.Join(want, " "), 97, 0))
	for _, x := range []string{"lui x0, 1", "addi x0, x0, 5", "ori x0, x0, 5", "sub x0, x0, x5", "jal x0, 4", "jalr x0, 12(x0)", "lw x0, 0(x6)", "slli x0, x5, 3"} {
		ends(t, ".stack 4; addi x5, x0, 77; lui x6, 16; "+x+"; sw x5, 0(x6); lw x0, 0(x6); add x10, x0, x0"+leaves, "", plenty, done(0, "", 8, 0))
	}
}

// P18.3: ways on, by numbers and by labels.
func TestRunWays(t *testing.T) {
	ends(t, "addi x1, x0, 16; jalr x1, 0(x1); ecall; ecall; add x10, x0, x1"+leaves, "", plenty, done(8, "", 5, 0))
	ends(t, "addi x1, x0, 17; jalr x1, 0(x1); ecall; ecall; add x10, x0, x1"+leaves, "", plenty, done(8, "", 5, 0))
	ends(t, "jal x10, on; ecall; on: add x10, x10, x10"+leaves, "", plenty, done(8, "", 4, 0))
	ends(t, "addi x5, x0, 3; again: addi x10, x10, 2; addi x5, x5, -1; bne x5, x0, -8"+leaves, "", plenty, done(6, "", 12, 0))
	ends(t, "addi x5, x0, 3; again: beq x5, x0, 16; addi x10, x10, 2; addi x5, x5, -1; jal x0, again"+leaves, "", plenty, done(6, "", 16, 0))
	const fib = ".stack 512; .start: lui x2, 16; addi x2, x2, 512; addi x17, x0, 2; ecall; jal x1, fib; addi x17, x0, 3; ecall;" +
		"fib: slti x5, x10, 2; bne x5, x0, 56; addi x2, x2, -16; sw x1, 0(x2); sw x10, 4(x2); addi x10, x10, -1; jal x1, fib; lw x6, 4(x2); sw x10, 8(x2); addi x10, x6, -2; jal x1, fib; lw x6, 8(x2); add x10, x10, x6; lw x1, 0(x2); addi x2, x2, 16; jalr x0, 0(x1)"
	if got := loaded(t, fib).Run(list("7"), plenty); got.Value != 13 || got.End != api.EndDone || got.Reads != 1 {
		t.Errorf("%+v", got)
	}
	if got := loaded(t, fib).Run(list("40"), plenty); got.End != api.EndFault {
		t.Errorf("below the stack there are no words: %+v", got)
	}
}

// Rules 4 and 6: a run leaves nothing behind, in the image or in what it was given; its trace is new memory.
func TestRunAgain(t *testing.T) {
	m := loaded(t, ".word g 0; .stack 0; lui x5, %hi(g); lw x6, 0(x5); addi x17, x0, 2; ecall; add x6, x6, x10; sw x6, 0(x5); addi x17, x0, 1; add x10, x0, x6; ecall"+leaves)
	whole := list("1 2 3 4")
	first := m.Run(whole[1:2], plenty)
	if !equal(first, done(2, "2", 11, 1)) || !slices.Equal(whole, list("1 2 3 4")) {
		t.Errorf("%+v, %d", first, whole)
	}
	first.Trace[0] = 9
	_ = append(first.Trace, 8)
	if second := m.Run(whole[2:2], plenty); !equal(second, done(0, "0", 11, 0)) {
		t.Errorf("%+v", second)
	}
	second := m.Run(whole[3:], plenty)
	clear(whole)
	if !equal(second, done(4, "4", 11, 1)) || !equal(m.Run(nil, 3), open("", 3, 0)) || !equal(m.Run([]int32{}, plenty), m.Run(nil, plenty)) {
		t.Errorf("%+v", second)
	}
	var zero riscv.Image
	zero.Run(nil, 5)
}
