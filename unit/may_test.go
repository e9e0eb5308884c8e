package unit_test

import (
	"math"
	"regexp"
	"strings"
	"testing"

	"brazier/api"
	"brazier/asm"
	"brazier/unit"
)

// may tells of a unit, and what that means for reading its printing.
func may(t *testing.T, u api.Unit, want bool) {
	t.Helper()
	if got := unit.May(u); got != want {
		t.Errorf("%+v: %v; want %v", u, got, want)
	}
	text := unit.Print(u)
	back, is := unit.Parse(text)
	if want && (!is || !unit.Same(back, u)) {
		t.Errorf("%+v is printed %q and read %+v, %v", u, text, back, is)
	}
	if is && (unit.Print(back) != text || !unit.May(back)) || !is && !unit.Same(back, api.Unit{}) {
		t.Errorf("%q is read %+v, %v", text, back, is)
	}
	if !want && is && unit.Same(back, u) {
		t.Errorf("%q is read as what may not be", text)
	}
}

// P20.2: Name is a name.
func TestMayName(t *testing.T) {
	for _, name := range []string{"f", "main", "_", "F9", "x1", "start", "lui", strings.Repeat("x", 64)} {
		may(t, unitOf(name, 16), true)
		may(t, unitOf(name, 16, label("."+name+".0"), jal("."+name+".0")), true)
	}
	for _, name := range []string{"", "1", "9f", "int", "if", "else", "while", "break", "continue", "return", "print", "read", ".f", "f.", "f.0", "a b", " f", "f\n", "é", "f-", strings.Repeat("x", 65), strings.Repeat("x", 100)} {
		may(t, unitOf(name, 16), false)
	}
}

// P20.2: Frame is from 16 to 2^18, a multiple of 16.
func TestMayFrame(t *testing.T) {
	for _, n := range []int{16, 32, 48, 64, 512, 2048, 4096, 4112, 65536, 131072, 1<<18 - 32, 1<<18 - 16, 1 << 18} {
		may(t, unitOf("f", n), true)
	}
	for _, n := range []int{0, 1, 4, 8, 12, 15, 17, 18, 20, 24, 28, 31, 33, 1<<18 - 8, 1<<18 - 1, 1<<18 + 1, 1<<18 + 16, 1 << 19, 1 << 20, -16, -32, -1, -1 << 18, math.MaxInt, math.MaxInt - 15, math.MinInt, math.MinInt + 16, 1<<32 + 16, 1 << 32, -1<<32 + 16} {
		may(t, unitOf("f", n), false)
	}
}

// P20.2: the first line is the label Name.
func TestMayFirst(t *testing.T) {
	for _, lines := range [][]api.Line{
		nil, {}, {{}}, {label("g")}, {label("F")}, {label("f.")}, {label(".f.")}, {label(".f.0")}, {label("")}, {label("ff")},
		{ins(api.Ecall, 0, 0, 0, 0)}, {jal("f")}, {ins(api.Ecall, 0, 0, 0, 0), label("f")}, {label(".f.0"), label("f")}, {label("g"), label("f")},
		{{Kind: api.LineIns, Sym: "f"}}, {{Kind: api.LineLabel, Op: 1, Sym: "f"}}, {{Kind: api.LineLabel, D: 1, Sym: "f"}}, {{Kind: api.LineLabel, A: 1, Sym: "f"}}, {{Kind: api.LineLabel, B: 1, Sym: "f"}}, {{Kind: api.LineLabel, Num: 1, Sym: "f"}}, {{Kind: 3, Sym: "f"}},
	} {
		may(t, api.Unit{Name: "f", Frame: 16, Lines: lines}, false)
	}
	may(t, api.Unit{Name: "f", Frame: 16, Lines: []api.Line{label("f")}}, true)
}

// P20.2: all lines may be.
func TestMayLines(t *testing.T) {
	m := newMaker(204)
	for range rounds(3000) {
		l := m.Op(1 + m.Intn(30))
		want := l.Op != api.Jal // one that goes by a number
		may(t, unitOf("f", 16, l), want)
		may(t, unitOf("f", 16, ins(api.Ecall, 0, 0, 0, 0), l, label(".f.0")), want)
		m.BendLine(&l)
		want = asm.MayLine(l) && l.Kind == api.LineIns && (l.Op != api.Jal || isName(l.Sym))
		may(t, unitOf("f", 16, l), want)
	}
	for _, l := range []api.Line{{}, {Kind: 2}, {Kind: 2, Op: 31}, {Kind: 3, Sym: "f"}, ins(api.Addi, 32, 0, 0, 0), ins(api.Addi, 5, 0, 0, 2048), ins(api.Adds, 5, 5, 5, 1), label("")} {
		may(t, unitOf("f", 16, l), false)
		may(t, unitOf("f", 16, ins(api.Ecall, 0, 0, 0, 0), l), false)
	}
	lui := ins(api.Lui, 5, 0, 0, 0)
	for _, sym := range []string{"g", "f", ".f.0", ".g.0", ".start", "int", "."} { // no jump: any symbol
		lui.Sym = sym
		may(t, unitOf("f", 16, lui), true)
	}
}

// P20.2: labels but the first are the unit's own, and no two are the same.
func TestMayLabels(t *testing.T) {
	for _, syms := range []string{".f.0", ".f.", ".f..", ".f.0.f.0", ".f.main", ".f.0 .f.1", ".f.0 .f.00", ".f.2 .f.1 .f.10 .f.x .f._ .f.", ".f.f", ".f." + strings.Repeat("9", 97)} {
		may(t, places(syms), true)
	}
	for _, syms := range []string{"f", "g", "main", ".", ".f", "f.", "f.0", ".g.0", ".F.0", ".ff.0", "..f.0", ".f0", ".start", ".f.0 .f.0", ".f. .f.", ".f.0 .f.1 .f.0", ".f.0 f", "f f", ".f.0 g", ".f.0 .f", ".f.é", ".f.a:b", ".f." + strings.Repeat("9", 98)} {
		may(t, places(syms), false)
	}
}

// places is a unit f with labels of these symbols, with blanks between them, an instruction ahead of each.
func places(syms string) api.Unit {
	u := unitOf("f", 32)
	for _, sym := range strings.Fields(syms) {
		u.Lines = append(u.Lines, ins(api.Addi, 10, 0, 0, 7), label(sym))
	}
	return u
}

// P20.2: a jump is to a label that is there, or to a name.
func TestMayJumps(t *testing.T) {
	for _, sym := range []string{".f.0", ".f.x", "f", "g", "main", "x1", "lui", "start", strings.Repeat("x", 64)} {
		may(t, unitOf("f", 16, label(".f.0"), jal(sym), label(".f.x")), true)
	}
	for _, sym := range []string{"", ".f.1", ".f.", ".f.00", ".f", ".g.0", ".main.0", ".start", ".", "int", "while", "f.0", "g.", "1", strings.Repeat("x", 65)} {
		may(t, unitOf("f", 16, label(".f.0"), jal(sym), label(".f.x")), false)
		may(t, unitOf("f", 16, jal("f"), jal(sym)), false)
	}
	for d := range 32 {
		l := jal("g")
		l.D = d
		may(t, unitOf("f", 16, l), true)
	}
	for _, num := range []int32{2, -4, 8, 1 << 19, -1 << 20} {
		may(t, unitOf("f", 16, ins(api.Jal, 0, 0, 0, num)), false)
	}
}

var nameForm, wordForm = regexp.MustCompile(`^[A-Za-z_][A-Za-z0-9_]{0,63}$`), regexp.MustCompile(`^(int|if|else|while|break|continue|return|print|read)$`)

func isName(s string) bool { return nameForm.MatchString(s) && !wordForm.MatchString(s) }

// mayBe is May, by counts.
func mayBe(u api.Unit) bool {
	labels := map[string]int{}
	wrong := 0
	for i, l := range u.Lines {
		if !asm.MayLine(l) {
			wrong++
		}
		if l.Kind == api.LineLabel {
			labels[l.Sym]++
		}
		if is := l.Kind == api.LineLabel && l.Sym == u.Name; is != (i == 0) {
			wrong++
		}
	}
	for sym, n := range labels {
		parts := strings.SplitN(sym, ".", 3) // a name has no point in it
		if own := len(parts) == 3 && parts[0] == "" && parts[1] == u.Name; n != 1 || sym != u.Name && !own {
			wrong++
		}
	}
	for _, l := range u.Lines {
		if l.Kind == api.LineIns && l.Op == api.Jal && labels[l.Sym] == 0 && !isName(l.Sym) {
			wrong++
		}
	}
	return wrong == 0 && len(u.Lines) > 0 && isName(u.Name) && u.Frame >= 16 && u.Frame <= 262144 && u.Frame%16 == 0
}

// P20.2: random units, some of them bent.
func TestRandomUnits(t *testing.T) {
	m := newMaker(205)
	no := 0
	for range rounds(10000) {
		u := m.Unit()
		if !mayBe(u) {
			t.Fatalf("%+v may not be", u)
		}
		may(t, u, true)
		for range 1 + m.Intn(2) {
			m.BendUnit(&u)
		}
		want := mayBe(u)
		may(t, u, want)
		if !want {
			no++
		}
	}
	if no < rounds(4000) || no > rounds(9500) {
		t.Error(no)
	}
}
