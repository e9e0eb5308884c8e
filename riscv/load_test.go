package riscv_test

import (
	"slices"
	"testing"

	"brazier/api"
	"brazier/asm"
	"brazier/riscv"
	"brazier/sample"
	"brazier/word"
)

func refused(t *testing.T, what string, a api.Asm, want api.Errno) {
	t.Helper()
	if m, err := riscv.Load(a); m != nil || err != want {
		t.Errorf("%s: %d; want %d", what, err, want)
	}
}

func label(sym string) api.Line { return api.Line{Kind: api.LineLabel, Sym: sym} }

func jal(sym string) api.Line { return api.Line{Kind: api.LineIns, Op: api.Jal, Sym: sym} }

func data(name string, size int) api.Global { return api.Global{Name: name, Size: size} }

// The faults of a program, one of each.
var (
	arg     = label("a b")
	twice   = []api.Line{label("x"), label("x")}
	nowhere = jal("nowhere")
	large   = []api.Global{data("a", 4096), data("b", 4096), data("c", 4096), data("d", 4096), data("e", 0)}
)

// P18.1: what is wrong with a program.
func TestLoadErrors(t *testing.T) {
	ecall := api.Line{Kind: api.LineIns, Op: api.Ecall}
	refused(t, "a line that may not be", api.Asm{Lines: []api.Line{arg}}, api.ErrArg)
	refused(t, "a zero line", api.Asm{Lines: []api.Line{ecall, {}}}, api.ErrArg)
	refused(t, "a stack that may not be", api.Asm{Stack: -1}, api.ErrArg)
	refused(t, "too much stack", api.Asm{Stack: 1<<24 + 1}, api.ErrArg)
	refused(t, "Data that may not be", api.Asm{Data: []api.Global{data("int", 0)}}, api.ErrArg)
	refused(t, "two labels", api.Asm{Lines: twice}, api.ErrTwice)
	refused(t, "two labels apart", api.Asm{Lines: []api.Line{label("x"), ecall, label("y"), label("x")}}, api.ErrTwice)
	refused(t, "two of Data", api.Asm{Data: []api.Global{data("g", 0), data("h", 1), data("g", 2)}}, api.ErrTwice)
	refused(t, "a label and Data", api.Asm{Data: []api.Global{data("h", 1), data("g", 2)}, Lines: []api.Line{ecall, label("g")}}, api.ErrTwice)
	refused(t, "a symbol that is nowhere", api.Asm{Lines: []api.Line{label("x"), jal("y")}}, api.ErrName)
	refused(t, "a symbol of Lui", program(t, "lui x1, %hi(y)"), api.ErrName)
	refused(t, "a symbol of Addi", program(t, ".word g 0; .stack 0; lui x1, %hi(g); addi x1, x1, %lo(gg)"), api.ErrName)
	refused(t, "too much Data", api.Asm{Data: large}, api.ErrBig)
	for _, a := range []api.Asm{{}, {Data: []api.Global{}, Lines: []api.Line{}}, {Data: large[:4]}, {Data: append(slices.Clone(large[:3]), data("d", 4095), data("e", 0)), Stack: 1 << 24}, {Lines: []api.Line{label("x"), label("y")}}} {
		image(t, a)
	}
}

// P18.1: of several faults the one that the chapter names first.
func TestLoadOrder(t *testing.T) {
	for _, c := range []struct {
		a    api.Asm
		want api.Errno
	}{
		{api.Asm{Data: large, Lines: []api.Line{nowhere, twice[0], twice[1], arg}}, api.ErrArg},
		{api.Asm{Data: large, Lines: []api.Line{nowhere, twice[0], twice[1]}}, api.ErrTwice},
		{api.Asm{Data: append(slices.Clone(large), data("e", 1)), Lines: []api.Line{nowhere}}, api.ErrTwice},
		{api.Asm{Data: large, Lines: []api.Line{nowhere}}, api.ErrName},
		{api.Asm{Data: large, Lines: []api.Line{jal("a"), label("f")}}, api.ErrBig},
	} {
		refused(t, "several", c.a, c.want)
	}
	refused(t, "far ahead of what is nowhere", api.Asm{Lines: append(far(1<<18), nowhere)}, api.ErrName)
	refused(t, "far ahead of what is twice", api.Asm{Lines: append(far(1<<18), twice...)}, api.ErrTwice)
}

// far is a Jal, and its label so many instructions on.
func far(n int) []api.Line {
	l := append([]api.Line{jal("far")}, slices.Repeat([]api.Line{{Kind: api.LineIns, Op: api.Ecall}}, n-1)...)
	return append(l, label("far"))
}

// near is a label, and a Jal to it so many instructions on.
func near(n int) []api.Line {
	l := append([]api.Line{label("near")}, slices.Repeat([]api.Line{{Kind: api.LineIns, Op: api.Ecall}}, n)...)
	return append(l, jal("near"))
}

// P18.1: how far a Jal's label may be.
func TestLoadFar(t *testing.T) {
	const most = 1 << 18 // so many instructions are 2^20 bytes
	m := image(t, api.Asm{Lines: far(most - 1)})
	if l, _ := m.Line(0); l.Num != 1<<20-4 {
		t.Errorf("%+v", l)
	}
	refused(t, "2^20 bytes ahead", api.Asm{Lines: far(most)}, api.ErrBig)
	m = image(t, api.Asm{Lines: near(most)})
	if l, _ := m.Line(most); l.Num != -1<<20 {
		t.Errorf("%+v", l)
	}
	refused(t, "more than 2^20 bytes back", api.Asm{Lines: near(most + 1)}, api.ErrBig)
	l := append(near(most + 1)[:most+2], jal("there"), label("there"))
	if m = image(t, api.Asm{Lines: l}); m.Len() != most+2 {
		t.Error("a label that no Jal asks may be anywhere")
	}
	l = slices.Insert(slices.Clone(l), most+2, api.Line{Kind: api.LineIns, Op: api.Lui, Sym: "near"})
	if l, _ := image(t, api.Asm{Lines: l}).Line(most + 1); l.Num != 0 || l.Op != api.Lui {
		t.Errorf("%+v", l)
	}
}

// at tells a symbol's address.
func at(t *testing.T, m *riscv.Image, sym string, want int32, there bool) {
	t.Helper()
	if got, is := m.At(sym); got != want || is != there {
		t.Errorf("%s: %d, %v; want %d, %v", sym, got, is, want, there)
	}
}

// P18.1: addresses.
func TestAddresses(t *testing.T) {
	m := loaded(t, ".word g 0; .word a 3; .word h 1; .word b 4096; .word k 0; .stack 5; zero: ecall; ecall; two: also2: ecall; .start: jal x0, two; end:")
	for sym, want := range map[string]int32{"zero": 0, "two": 8, "also2": 8, ".start": 12, "end": 16, "g": 65536, "a": 65540, "h": 65552, "b": 65556, "k": 65556 + 4*4096} {
		at(t, m, sym, want, true)
	}
	for _, sym := range []string{"", "x", "Two", "two:", "stack", "ecall"} {
		at(t, m, sym, 0, false)
	}
	if m.Len() != 4 {
		t.Error(m.Len())
	}
	m = image(t, api.Asm{})
	at(t, m, ".start", 0, false)
	if m.Len() != 0 {
		t.Error(m.Len())
	}
}

// line tells an instruction, without its symbol.
func line(t *testing.T, m *riscv.Image, i int, want string) {
	t.Helper()
	wanted, there := asm.ParseLine("\t" + want)
	if !there {
		t.Fatal(want)
	}
	if got, is := m.Line(i); !is || got != wanted {
		t.Errorf("%d: %+v, %v; want %+v", i, got, is, wanted)
	}
}

// P18.1: instructions, with numbers in the place of symbols.
func TestLine(t *testing.T) {
	m := loaded(t, ".word g 600; .word a 3; .stack 16; back: lui x5, %hi(g); addi x5, x6, %lo(g); lui x5, %hi(a); addi x5, x5, %lo(a); jal x1, back; jal x0, on; beq x1, x2, -8; jal x0, -12; on: lui x1, %hi(on); addi x1, x0, %lo(on); jal x3, on; jal x0, g; lui x1, 1048575")
	for i, want := range []string{"lui x5, 16", "addi x5, x6, 0", "lui x5, 17", "addi x5, x5, -1696", "jal x1, -16", "jal x0, 12", "beq x1, x2, -8", "jal x0, -12", "lui x1, 0", "addi x1, x0, 32", "jal x3, -8", "jal x0, 65492", "lui x1, 1048575"} {
		line(t, m, i, want)
	}
	for _, i := range []int{-1, 13, 14, 1 << 62, -1 << 63} {
		if l, there := m.Line(i); there || l != (api.Line{}) {
			t.Errorf("%d: %+v", i, l)
		}
	}
}

// P18.1: of random programs errors and addresses are as the chapter, gone through in another way, has them.
func TestRandomLoad(t *testing.T) {
	m := newMaker(181)
	found := map[api.Errno]int{}
	for range rounds(5000) {
		a := m.Asm()
		for i := range a.Lines { // few symbols, so that some are meant
			if l := &a.Lines[i]; l.Sym != "" {
				l.Sym = one(m, "g", "h", "a", "b", "f", "k", ".f", ".start", ".k.1")
			}
		}
		switch m.Intn(12) {
		case 0, 1:
			m.BendAsm(&a)
		case 2:
			a.Data = append(slices.Clone(large[m.Intn(2):4]), data(one(m, "e", "g", "a"), m.Intn(4100)))
		}
		got, err := riscv.Load(a)
		if want := loadError(a); err != want || (got == nil) == (err == api.OK) {
			t.Fatalf("%d; want %d: %+v", err, want, a)
		}
		found[err]++
		if err == api.OK {
			checkImage(t, got, a)
		}
	}
	if len(found) != 5 || found[api.ErrBig] < rounds(30) {
		t.Error(found)
	}
}

func loadError(a api.Asm) api.Errno {
	if !asm.May(a) {
		return api.ErrArg
	}
	var syms []string
	words := 0
	for _, g := range a.Data {
		syms = append(syms, g.Name)
		words += max(1, g.Size)
	}
	for _, l := range a.Lines {
		if l.Kind == api.LineLabel {
			syms = append(syms, l.Sym)
		}
	}
	slices.Sort(syms)
	if len(slices.Compact(slices.Clone(syms))) < len(syms) {
		return api.ErrTwice
	}
	for _, l := range a.Lines {
		if l.Sym != "" && !slices.Contains(syms, l.Sym) {
			return api.ErrName
		}
	}
	if words > 1<<14 {
		return api.ErrBig
	}
	return api.OK
}

// checkImage goes by the lines from the front.
func checkImage(t *testing.T, m *riscv.Image, a api.Asm) {
	t.Helper()
	next := int32(65536)
	for _, g := range a.Data {
		at(t, m, g.Name, next, true)
		next += 4 * int32(max(1, g.Size))
	}
	n := 0
	for _, l := range a.Lines {
		if l.Kind == api.LineLabel {
			at(t, m, l.Sym, int32(4*n), true)
			continue
		}
		if l.Sym != "" {
			to, _ := m.At(l.Sym)
			high, low := word.Split(to)
			l.Num = map[int]int32{api.Lui: high, api.Addi: low, api.Jal: to - int32(4*n)}[l.Op]
			l.Sym = ""
		}
		if got, there := m.Line(n); !there || got != l || !asm.MayLine(got) {
			t.Fatalf("%d: %+v; want %+v", n, got, l)
		}
		n++
	}
	if m.Len() != n {
		t.Fatalf("%d; want %d: %+v", m.Len(), n, a)
	}
}

// Rules 4 and 6: what is handed in isn't kept.
func TestLoadKeepsNothing(t *testing.T) {
	a := program(t, ".word g 2; .stack 8; .start: lui x5, %hi(g); addi x10, x0, 7"+leaves)
	kept := sample.CopyAsm(a)
	m := image(t, a)
	if !asm.Same(a, kept) {
		t.Errorf("turned what it was given: %+v", a)
	}
	clear(a.Lines)
	clear(a.Data)
	at(t, m, "g", 65536, true)
	line(t, m, 1, "addi x10, x0, 7")
	if got := m.Run(nil, plenty); !equal(got, done(7, "", 4, 0)) {
		t.Errorf("%+v", got)
	}
}

// P18.3: a nil image.
func TestNil(t *testing.T) {
	var m *riscv.Image
	if m.Len() != 0 {
		t.Error(m.Len())
	}
	at(t, m, ".start", 0, false)
	at(t, m, "", 0, false)
	for _, i := range []int{-1, 0, 1} {
		if l, there := m.Line(i); there || l != (api.Line{}) {
			t.Errorf("%+v", l)
		}
	}
	for _, fuel := range []int{-1, 0, 100} {
		if got := m.Run(list("1 2"), fuel); !equal(got, fault("", 0, 0)) {
			t.Errorf("%+v", got)
		}
	}
}
