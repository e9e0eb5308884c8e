package asm_test

import (
	"math"
	"regexp"
	"strings"
	"testing"

	"brazier/api"
	"brazier/asm"
	"brazier/sample"
)

func sym(t *testing.T, s string, want bool) {
	t.Helper()
	if got := asm.IsSym(s); got != want {
		t.Errorf("%q: %v; want %v", s, got, want)
	}
}

// P17.1: what a symbol is.
func TestIsSym(t *testing.T) {
	for _, s := range []string{"a", "Z", "_", ".", "..", ".1", "_1", "a1", "x31", "main", ".start", ".main.0", "int", "addi", "A_b.C9", strings.Repeat("a", 100), strings.Repeat(".", 100)} {
		sym(t, s, true)
	}
	for _, s := range []string{"", "0", "9a", "1.", " a", "a ", "a b", "a:", "a\n", "%hi", "a-b", "-", "é", "aé", "a\x00", "a$", "@", "a[", strings.Repeat("a", 101), strings.Repeat("a", 1<<16)} {
		sym(t, s, false)
	}
	form := regexp.MustCompile(`^[A-Za-z_.][A-Za-z0-9_.]{0,99}$`)
	for c := range 256 {
		for _, s := range []string{string([]byte{byte(c)}), string([]byte{'a', byte(c)}), string([]byte{byte(c), 'a'}), string([]byte{'.', byte(c), '.'})} {
			sym(t, s, form.MatchString(s) && !strings.HasSuffix(s, "\n"))
		}
	}
}

// P17.1: the mnemonics, by the numbers.
func TestMnemonic(t *testing.T) {
	names := strings.Fields("lui addi slti sltiu xori ori andi slli srli srai add sub sll slt sltu xor srl sra or and mul div rem lw sw beq bne jal jalr ecall")
	if len(names) != 30 || sample.Ops != 30 {
		t.Fatal(names)
	}
	for op := -100; op < 300; op++ {
		want := ""
		if op >= 1 && op <= 30 {
			want = names[op-1]
		}
		if got := asm.Mnemonic(op); got != want {
			t.Errorf("%d: %q; want %q", op, got, want)
		}
	}
	for _, op := range []int{math.MinInt, math.MaxInt, 1 << 32, 1<<32 + 1, -1 << 32} {
		if got := asm.Mnemonic(op); got != "" {
			t.Errorf("%d: %q", op, got)
		}
	}
}

// P17.2: a label has its symbol alone.
func TestMayLabel(t *testing.T) {
	may(t, label("main"), true)
	may(t, label(".start"), true)
	may(t, label(strings.Repeat("x", 100)), true)
	for _, l := range []api.Line{label(""), label("1"), label("a b"), label("a:"), label("a\n"), label(strings.Repeat("x", 101))} {
		may(t, l, false)
	}
	for _, n := range []int{1, -1, 5, math.MaxInt, math.MinInt, 1 << 32} {
		for _, l := range []api.Line{{Op: n}, {D: n}, {A: n}, {B: n}, {Num: 1}, {Num: -1}, {Num: math.MinInt32}} {
			l.Kind, l.Sym = api.LineLabel, "a"
			may(t, l, false)
		}
	}
}

// P17.2: other kinds and other instructions are none.
func TestMayKindsAndOps(t *testing.T) {
	for _, kind := range []int{0, -1, 3, math.MaxInt, math.MinInt, 1<<32 + 1, 1<<32 + 2} {
		may(t, api.Line{Kind: kind, Sym: "a"}, false)
		may(t, api.Line{Kind: kind, Op: api.Ecall}, false)
		may(t, api.Line{Kind: kind}, false)
	}
	for _, op := range []int{0, -1, 31, 40, 53, math.MaxInt, math.MinInt, 1<<32 + 1} {
		may(t, ins(op, 0, 0, 0, 0), false)
		may(t, withSym(ins(op, 0, 0, 0, 0), "a"), false)
	}
	for op := 1; op <= sample.Ops; op++ {
		may(t, ins(op, 0, 0, 0, 0), true)
	}
}

// P17.2: registers that an instruction has are from 0 to 31, others 0.
func TestMayRegisters(t *testing.T) {
	for op := 1; op <= sample.Ops; op++ {
		for _, n := range []int{-1, -32, 1, 2, 15, 31, 32, 33, 63, math.MaxInt, math.MinInt, 1 << 32, 1<<32 + 1} {
			within := n >= 0 && n <= 31
			may(t, ins(op, n, 0, 0, 0), has(letters(op), 'D') && within)
			may(t, ins(op, 0, n, 0, 0), has(letters(op), 'A') && within)
			may(t, ins(op, 0, 0, n, 0), has(letters(op), 'B') && within)
			may(t, ins(op, n, n, n, 0), letters(op) == "DAB" && within)
		}
	}
	for op, want := range map[int]string{api.Lui: "D", api.Addi: "DA", api.Andi: "DA", api.Slli: "DA", api.Srai: "DA", api.Adds: "DAB", api.Rems: "DAB", api.Lw: "DA", api.Sw: "AB", api.Beq: "AB", api.Bne: "AB", api.Jal: "D", api.Jalr: "DA", api.Ecall: ""} {
		if letters(op) != want {
			t.Errorf("the test's own list is wrong of %d: %s", op, letters(op))
		}
	}
}

// P17.2: Num's ends, and that it is even.
func TestMayNum(t *testing.T) {
	ends := map[byte][2]int32{'u': {0, 1048575}, 's': {-2048, 2047}, 'c': {0, 31}, 'b': {-4096, 4094}, 'j': {-1048576, 1048574}, 0: {0, 0}}
	for op := 1; op <= sample.Ops; op++ {
		letter := numLetter(op)
		from, to := ends[letter][0], ends[letter][1]
		even := letter == 'b' || letter == 'j'
		for _, n := range []int32{from, to, from - 1, from - 2, from + 1, from + 2, to + 1, to + 2, to - 1, to - 2, 0, 1, 2, 3, 4, -1, -2, -3, math.MaxInt32, math.MaxInt32 - 1, math.MinInt32, math.MinInt32 + 1} {
			may(t, ins(op, 0, 0, 0, n), n >= from && n <= to && (!even || n%2 == 0))
		}
	}
}

// P17.2: of Lui, Addi and Jal a symbol may stand in Num's place.
func TestMaySym(t *testing.T) {
	for op := 1; op <= sample.Ops; op++ {
		has := op == api.Lui || op == api.Addi || op == api.Jal
		for _, s := range []string{"a", ".start", "x1", "lui", strings.Repeat("a", 100)} {
			may(t, withSym(ins(op, 0, 0, 0, 0), s), has)
			l := ins(op, 0, 0, 0, 2)
			l.Sym = s
			may(t, l, false)
		}
		for _, s := range []string{"1", " ", "a b", "%hi(a)", "a)", strings.Repeat("a", 101)} {
			may(t, withSym(ins(op, 0, 0, 0, 0), s), false)
		}
	}
	may(t, withSym(ins(api.Lui, 5, 0, 0, 0), "g"), true)
	may(t, withSym(ins(api.Addi, 5, 6, 0, 0), "g"), true)
	may(t, withSym(ins(api.Addi, 5, 6, 7, 0), "g"), false)
	may(t, withSym(ins(api.Jal, 32, 0, 0, 0), "g"), false)
}

// P17.4: which programs may be.
func TestMay(t *testing.T) {
	g := func(name string, size int) api.Asm {
		return api.Asm{Data: []api.Global{{Name: "a"}, {Name: name, Size: size}}}
	}
	many := func(n int) api.Asm { return api.Asm{Data: globals(n)} }
	yes := []api.Asm{{}, {Data: []api.Global{}, Lines: []api.Line{}}, {Stack: 1}, {Stack: 1 << 24}, g("b", 0), g("b", 1), g("b", 4096), g("a", 3), g("_9", 1), g(strings.Repeat("a", 64), 1), many(63), many(64), {Lines: []api.Line{ins(api.Ecall, 0, 0, 0, 0), ins(api.Ecall, 0, 0, 0, 0), label("a"), label("a")}}}
	for _, a := range yes {
		if !asm.May(a) {
			t.Errorf("%+v may be", a)
		}
	}
	no := []api.Asm{{Stack: -1}, {Stack: 1<<24 + 1}, {Stack: math.MaxInt}, {Stack: math.MinInt}, {Stack: 1 << 32}, g("b", -1), g("b", 4097), g("b", math.MaxInt), g("b", math.MinInt), g("b", 1<<32), g("", 1), g("int", 1), g("read", 1), g("1a", 1), g(".a", 1), g("a.b", 1), g("a b", 1), g(strings.Repeat("a", 65), 1), many(65), many(200), {Lines: []api.Line{{}}}, {Lines: []api.Line{label("a"), {}}}, {Lines: []api.Line{{}, label("a")}}}
	for _, a := range no {
		if asm.May(a) {
			t.Errorf("%+v may not be", a)
		}
	}
}

// globals is so many globals.
func globals(n int) []api.Global {
	out := make([]api.Global, n)
	for i := range out {
		out[i] = api.Global{Name: "g", Size: i}
	}
	return out
}
