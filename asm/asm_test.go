package asm_test

import (
	"fmt"
	"math"
	"slices"
	"strings"
	"testing"

	"brazier/api"
	"brazier/asm"
)

const whole = ".word g 0\n.word a 3\n.stack 512\n.start:\n\tlui x2, 16\n\taddi x2, x2, %lo(a)\n\tjal x1, main\n\tecall\nmain:\n\tjalr x0, 0(x1)\n"

func wholeAsm() api.Asm {
	return api.Asm{Data: []api.Global{{Name: "g"}, {Name: "a", Size: 3}}, Stack: 512, Lines: []api.Line{
		label(".start"), ins(api.Lui, 2, 0, 0, 16), withSym(ins(api.Addi, 2, 2, 0, 0), "a"), withSym(ins(api.Jal, 1, 0, 0, 0), "main"), ins(api.Ecall, 0, 0, 0, 0), label("main"), ins(api.Jalr, 0, 1, 0, 0),
	}}
}

// P17.4: the lines of a program.
func TestPrint(t *testing.T) {
	for want, a := range map[string]api.Asm{
		whole:                             wholeAsm(),
		".stack 0\n":                      {},
		".stack 16777216\n":               {Stack: 1 << 24, Data: []api.Global{}, Lines: []api.Line{}},
		".word g 4096\n.stack 1\nf:\n":    {Data: []api.Global{{Name: "g", Size: 4096}}, Stack: 1, Lines: []api.Line{label("f")}},
		".word  -1\n.stack -1\n\n\n:\n":   {Data: []api.Global{{Size: -1}}, Stack: -1, Lines: []api.Line{{}, {Kind: api.LineIns}, {Kind: api.LineLabel}}},
		".word x y\n 5\n.stack -7\n":      {Data: []api.Global{{Name: "x y\n", Size: 1<<32 + 5}}, Stack: -1<<32 - 7},
		".word b -2147483648\n.stack 0\n": {Data: []api.Global{{Name: "b", Size: 1 << 31}}, Stack: math.MinInt},
	} {
		if got := asm.Print(a); got != want {
			t.Errorf("%+v: %q; want %q", a, got, want)
		}
	}
}

func parsed(t *testing.T, text string, want api.Asm) {
	t.Helper()
	got, err, n := asm.Parse(text)
	if err != api.OK || n != 0 || !same(got, want) {
		t.Errorf("%q: %+v, %d, %d; want %+v", text, got, err, n, want)
	}
}

// refused tells which line is told as the first that may not stand there.
func refused(t *testing.T, text string, want int) {
	t.Helper()
	got, err, n := asm.Parse(text)
	if err != api.ErrArg || n != want || !same(got, api.Asm{}) {
		t.Errorf("%q: %+v, %d, %d; want %d", text, got, err, n, want)
	}
}

// P17.4: what is read.
func TestParse(t *testing.T) {
	parsed(t, whole, wholeAsm())
	parsed(t, ".stack 0\n", api.Asm{})
	parsed(t, ".stack 16777216\n", api.Asm{Stack: 1 << 24})
	parsed(t, ".word a 4096\n.word a 0\n.stack 3\na:\na:\n", api.Asm{Data: []api.Global{{Name: "a", Size: 4096}, {Name: "a"}}, Stack: 3, Lines: []api.Line{label("a"), label("a")}})
	parsed(t, strings.Repeat(".word g 1\n", 64)+".stack 8\n\tecall\n", api.Asm{Data: slices.Repeat([]api.Global{{Name: "g", Size: 1}}, 64), Stack: 8, Lines: []api.Line{ins(api.Ecall, 0, 0, 0, 0)}})
	parsed(t, ".stack 8\n"+strings.Repeat("\tecall\n", 5000), api.Asm{Stack: 8, Lines: slices.Repeat([]api.Line{ins(api.Ecall, 0, 0, 0, 0)}, 5000)})
}

// P17.4: the first line that may not stand there.
func TestParseWrongLine(t *testing.T) {
	for _, first := range []string{
		"", " ", "\t", "x", "main:", "\tecall", ".word", ".word ", ".word g", ".word g ", ".word g 0 ", ".word g 0 0", ".word  g 0", " .word g 0", "\t.word g 0", ".word g x", ".word g -1", ".word g 4097", ".word g 01", ".word g +1", ".word g -0", ".word g 4294967296", ".word int 0", ".word 1g 0", ".word g.a 0", ".word .g 0", ".word " + strings.Repeat("g", 65) + " 0", ".Word g 0", ".words g 0", ".word\tg 0", ".word g\t0", ".word g 0\r",
		".stack", ".stack ", ".stack x", ".stack -1", ".stack 16777217", ".stack 01", ".stack 0 ", ".stack 0 0", ".stack  0", " .stack 0", ".stack g 0", ".STACK 0", ".stack 4294967296", ".stack 0\r", ".stack\t0",
	} {
		refused(t, first+"\n.stack 0\n", 1)
		refused(t, ".word h 0\n"+first+"\n.stack 0\n", 2)
		if first != "" {
			refused(t, first, 1)
			refused(t, ".word h 0\n.word h 0\n"+first, 3)
		}
		if first != "main:" && first != "\tecall" {
			refused(t, ".stack 0\n"+first+"\n", 2)
			refused(t, ".stack 0\n\tecall\n"+first+"\n\tecall\n", 3)
		}
	}
	refused(t, ".stack 0\n.stack 0\n", 2)
	refused(t, ".stack 0\n.word g 0\n", 2)
	refused(t, ".stack 0\nmain:\n\n", 3)
	refused(t, ".stack 0\n\n", 2)
	refused(t, "\n", 1)
	refused(t, "\n\n\n", 1)
	refused(t, ".stack 0\nmain:\n\tadd\n\tadd\n", 3)
	refused(t, ".stack 0\nmain:\n\tadd", 3)
	refused(t, ".stack 0\r\n", 1)
	refused(t, strings.Repeat(".word g 1\n", 65)+".stack 8\n", 65)
	refused(t, strings.Repeat(".word g 1\n", 64)+".word g", 65)
	refused(t, strings.Repeat(".word g 1\n", 65), 65)
	refused(t, strings.Repeat(".word g 1\n", 64)+".word g 1", 65)
}

// P17.4: a text that ends too early: no line of it may not stand there.
func TestParseEnd(t *testing.T) {
	refused(t, "", 1)
	refused(t, ".word g 0\n", 2)
	refused(t, ".word g 0", 2)
	refused(t, ".word g 0\n.word h 0", 3)
	refused(t, strings.Repeat(".word g 1\n", 64), 65)
	refused(t, ".stack 0", 2)
	refused(t, ".word g 0\n.stack 0", 3)
	refused(t, ".stack 0\nmain:", 3)
	refused(t, ".stack 0\nmain:\n\tecall", 4)
	for n := range whole {
		got := 1 + strings.Count(whole[:n], "\n")
		if end := whole[:n]; n > 0 && asLine(end[strings.LastIndex(end, "\n")+1:], got > 3) {
			got++
		}
		if n >= strings.Index(whole, ".start") && whole[n-1] == '\n' {
			continue
		}
		refused(t, whole[:n], got)
	}
}

// asLine is whether a text may stand as a line, behind the stack's line or not.
func asLine(s string, behind bool) bool {
	if behind {
		_, may := readAs(s)
		return may
	}
	var name string
	var n, size int
	if n, _ = fmt.Sscanf(s, ".stack %d", &size); n == 1 {
		return size >= 0 && size <= 1<<24 && s == fmt.Sprintf(".stack %d", size)
	}
	n, _ = fmt.Sscanf(s, ".word %s %d", &name, &size)
	return n == 2 && size >= 0 && size <= 4096 && s == fmt.Sprintf(".word %s %d", name, size) && asm.May(api.Asm{Data: []api.Global{{Name: name}}})
}

// read is Parse: the text cut at its line ends, line by line.
func read(s string) (int, bool) {
	lines := strings.Split(s, "\n")
	open := lines[len(lines)-1]
	if lines = lines[:len(lines)-1]; open != "" {
		lines = append(lines, open)
	}
	words, behind := 0, false
	for i, line := range lines {
		if !asLine(line, behind) {
			return i + 1, false
		}
		if strings.HasPrefix(line, ".word ") {
			words++
		}
		behind = behind || strings.HasPrefix(line, ".stack ")
		if words > 64 {
			return i + 1, false
		}
	}
	if !behind || open != "" {
		return len(lines) + 1, false
	}
	return 0, true
}

// P17.4: random texts, near those of programs.
func TestRandomPrograms(t *testing.T) {
	m := newMaker(174)
	found := 0
	for range rounds(10000) {
		text := asm.Print(m.Asm())
		for range m.Intn(3) {
			text = spoilt(m, text)
		}
		if m.Intn(4) == 0 {
			text = text[:m.Intn(len(text)+1)]
		}
		want, is := read(text)
		got, err, n := asm.Parse(text)
		if (err == api.OK) != is || n != want || err != api.OK && err != api.ErrArg {
			t.Fatalf("%q: %d, %d; want %d", text, err, n, want)
		}
		if is && (asm.Print(got) != text || !asm.May(got)) || !is && !same(got, api.Asm{}) {
			t.Fatalf("%q: %+v", text, got)
		}
		if is {
			found++
		}
	}
	if found < rounds(2000) || found > rounds(7000) {
		t.Error(found)
	}
}

// P17.6: what may be, printed, is parsed as the same; P17.4: what may not be isn't what its printing is parsed as.
func TestPrintedAndParsed(t *testing.T) {
	m := newMaker(176)
	no := 0
	for range rounds(10000) {
		a := m.Asm()
		if !asm.May(a) {
			t.Fatalf("%+v may not be", a)
		}
		parsed(t, asm.Print(a), a)
		m.BendAsm(&a)
		back, err, _ := asm.Parse(asm.Print(a))
		if may := asm.May(a); may != (err == api.OK && asm.Same(back, a)) {
			t.Fatalf("%+v: may %v, but is parsed %+v", a, may, back)
		} else if !may {
			no++
		}
		if err == api.OK && asm.Print(back) != asm.Print(a) {
			t.Fatalf("%q: %q", asm.Print(a), asm.Print(back))
		}
	}
	if no < rounds(5000) {
		t.Error(no)
	}
}

// P17.5: are all fields the same?
func TestSame(t *testing.T) {
	turns := map[string]func(a *api.Asm){
		"Name": func(a *api.Asm) { a.Data[0].Name = "h" }, "Size": func(a *api.Asm) { a.Data[1].Size = 4 }, "another order": func(a *api.Asm) { a.Data[0], a.Data[1] = a.Data[1], a.Data[0] }, "a global less": func(a *api.Asm) { a.Data = a.Data[:1] }, "no globals": func(a *api.Asm) { a.Data = nil }, "a global more": func(a *api.Asm) { a.Data = append(a.Data, api.Global{}) },
		"Stack": func(a *api.Asm) { a.Stack = 513 }, "no lines": func(a *api.Asm) { a.Lines = nil }, "a line less": func(a *api.Asm) { a.Lines = a.Lines[1:] }, "a line more": func(a *api.Asm) { a.Lines = append(a.Lines, api.Line{}) }, "other lines": func(a *api.Asm) { a.Lines[1], a.Lines[2] = a.Lines[2], a.Lines[1] },
		"Kind": func(a *api.Asm) { a.Lines[0].Kind = 2 }, "Op": func(a *api.Asm) { a.Lines[1].Op = 2 }, "D": func(a *api.Asm) { a.Lines[1].D = 3 }, "A": func(a *api.Asm) { a.Lines[1].A = 1 }, "B": func(a *api.Asm) { a.Lines[1].B = 1 }, "Num": func(a *api.Asm) { a.Lines[6].Num = 4 }, "Sym": func(a *api.Asm) { a.Lines[3].Sym = "" },
	}
	for what, turn := range turns {
		a, b := wholeAsm(), wholeAsm()
		if !asm.Same(a, b) || !asm.Same(a, a) {
			t.Error("a copy is the same")
		}
		turn(&b)
		if asm.Same(a, b) || asm.Same(b, a) {
			t.Errorf("%s: not the same", what)
		}
	}
	if !asm.Same(api.Asm{}, api.Asm{Data: []api.Global{}, Lines: []api.Line{}}) || !asm.Same(api.Asm{Data: []api.Global{}, Lines: []api.Line{}}, api.Asm{}) {
		t.Error("nil and empty lists are one")
	}
}
