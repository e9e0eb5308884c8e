package unit_test

import (
	"slices"
	"strconv"
	"strings"
	"testing"

	"brazier/api"
	"brazier/dead"
	"brazier/flow"
	"brazier/fold"
	"brazier/pick"
	"brazier/regs"
	"brazier/syntax"
	"brazier/unit"
)

// P20.1: the chapter's example: an Addi of 10, 0, 3, or two that make 3.
func TestExample(t *testing.T) {
	u := compiled(program(t, "int main() { return 1 + 2; }"))[0]
	var words [32]int32
	for _, l := range u.Lines {
		switch l.Op {
		case api.Adds, api.Lui:
			t.Error("it is known what is added", unit.Print(u))
		case api.Addi:
			words[l.D] = words[l.A] + l.Num
		}
	}
	if words[10] != 3 || u.Name != "main" || u.Frame != 16 {
		t.Error(words, unit.Print(u))
	}
}

// P20.1: all five passes, in their order.
func TestCompile(t *testing.T) {
	m := newMaker(201)
	for range rounds(1500) {
		p := m.Prog()
		var x unit.Pipeline
		var none *unit.Pipeline
		for _, f := range p.Funcs {
			lines, frame := regs.Fn(pick.Fn(dead.Fn(fold.Fn(flow.Lower(p, f)))))
			got := x.Compile(p, f)
			if got.Name != f.Name || got.Frame != frame || !slices.Equal(got.Lines, lines) {
				t.Fatalf("%s; want %d, %+v", unit.Print(got), frame, lines)
			}
			if own := none.Compile(p, f); !unit.Same(own, got) {
				t.Fatalf("%s; want %s", unit.Print(own), unit.Print(got))
			}
		}
	}
}

// P20.1: what stands behind each pass.
func TestPasses(t *testing.T) {
	m := newMaker(202)
	apart := [4]int{}
	for range rounds(1500) {
		p := m.Prog()
		f := one(m, p.Funcs...)
		first := flow.Lower(p, f)
		second := fold.Fn(first)
		third := dead.Fn(second)
		fourth := pick.Fn(third)
		lines, frame := regs.Fn(fourth)
		want := []string{flow.Print(first), flow.Print(second), flow.Print(third), pick.Print(fourth), unit.Print(api.Unit{Name: f.Name, Frame: frame, Lines: lines})}
		got := unit.Passes(p, f)
		if !slices.Equal(got, want) {
			t.Fatalf("%q; want %q", got, want)
		}
		for i := range apart {
			if got[i] != got[i+1] {
				apart[i]++
			}
		}
	}
	if slices.Min(apart[:]) < rounds(500) {
		t.Error("few functions tell the passes apart", apart)
	}
}

// P20.1: what the passes do to one function, by its texts.
func TestPassesOfOne(t *testing.T) {
	p := program(t, "int f(int x) { int y = 2 * 3; if (0) print x; return x + 1; } int main() { }")
	got := unit.Passes(p, p.Funcs[0])
	if len(got) != 5 {
		t.Fatalf("%q", got)
	}
	for i, text := range got {
		if want := []string{"fn f 1 ", "fn f 1 ", "fn f 1 ", "vfn f 1 ", ".unit f 16\nf:\n"}[i]; !strings.HasPrefix(text, want) || !strings.HasSuffix(text, "\n") {
			t.Errorf("%d: %s", i, text)
		}
	}
	for what, in := range map[string][4]bool{
		" * ":    {true, false, false, false},
		"num 6":  {false, true, false, false},
		"print ": {true, false, false, false},
		"+ ":     {true, true, true, false},
	} {
		for i, is := range in {
			if strings.Contains(got[i], what) != is {
				t.Errorf("%q in text %d, %s: not %v", what, i, got[i], is)
			}
		}
	}
	if !strings.Contains(got[3], "\t2 ") || !strings.Contains(got[4], "\taddi x") || !strings.Contains(got[4], "\tjalr x0, 0(x1)\n") {
		t.Errorf("%q", got)
	}
}

// P20.1: how often, and which.
func TestCount(t *testing.T) {
	p := program(t, "int f(int x) { return x; } int main() { print f(1); } int k() { }")
	var x, y unit.Pipeline
	counted := func(want ...string) {
		t.Helper()
		if got := x.Names(); x.Count() != len(want) || !slices.Equal(got, want) {
			t.Errorf("%d, %q; want %q", x.Count(), got, want)
		}
	}
	counted()
	x.Compile(p, p.Funcs[1])
	counted("main")
	x.Compile(p, p.Funcs[0])
	x.Compile(p, p.Funcs[2])
	counted("main", "f", "k")
	x.Compile(p, p.Funcs[0])
	x.Compile(p, p.Funcs[0])
	counted("main", "f", "k", "f", "f")
	unit.Passes(p, p.Funcs[0])
	y.Compile(p, p.Funcs[2])
	counted("main", "f", "k", "f", "f")
	if y.Count() != 1 || !slices.Equal(y.Names(), []string{"k"}) {
		t.Error(y.Count(), y.Names())
	}
}

// P20.1: many.
func TestCountMany(t *testing.T) {
	p := program(t, "int main() { }")
	var x unit.Pipeline
	n := rounds(3000)
	for i := range n {
		if x.Count() != i {
			t.Fatal(x.Count(), i)
		}
		x.Compile(p, p.Funcs[0])
	}
	if names := x.Names(); x.Count() != n || len(names) != n || slices.ContainsFunc(names, func(s string) bool { return s != "main" }) {
		t.Error(x.Count(), len(names))
	}
}

// P20.1: a nil one compiles, and counts nothing.
func TestNilPipeline(t *testing.T) {
	p := program(t, "int main() { print 1; }")
	var none *unit.Pipeline
	if none.Count() != 0 || len(none.Names()) != 0 {
		t.Error(none.Count(), none.Names())
	}
	if u := none.Compile(p, p.Funcs[0]); !unit.Same(u, compiled(p)[0]) || !unit.May(u) {
		t.Error(unit.Print(u))
	}
	if none.Count() != 0 || len(none.Names()) != 0 {
		t.Error(none.Count(), none.Names())
	}
}

// P20.3: what is compiled may be; printed, it is parsed as the same.
func TestCompiledMay(t *testing.T) {
	m := newMaker(203)
	jumps := 0
	for range rounds(2000) {
		p := m.Prog()
		for _, u := range compiled(p) {
			back, is := unit.Parse(unit.Print(u))
			if !unit.May(u) || !is || !unit.Same(back, u) {
				t.Fatalf("%s\n%s", syntax.Print(p), unit.Print(u))
			}
			jumps += strings.Count(unit.Print(u), "jal x0, .")
		}
	}
	if jumps < rounds(2000) {
		t.Error(jumps)
	}
}

// P20.3: the longest name, the greatest counts.
func TestCompiledEdges(t *testing.T) {
	long := strings.Repeat("n", 64)
	var locals, print strings.Builder
	for i := range api.MaxLocals - api.MaxParams {
		name := strings.Repeat("v", 61) + strconv.Itoa(100+i)
		locals.WriteString("int " + name + " = read(); ")
		print.WriteString("print " + name + "; ")
	}
	for _, text := range []string{
		"int main() { }",
		"int " + long + "(int a, int b, int c, int d, int e, int f, int g, int h) { while (a) { if (b) break; " + long + "(h, g, f, e, d, c, b, a); } return h; } int main() { }",
		"int f(int a, int b, int c, int d, int e, int g, int h, int i) { " + locals.String() + print.String() + "return i; } int main() { }",
		"int g; int main() { g = " + strings.Repeat("g + (", 60) + "read()" + strings.Repeat(")", 60) + "; }",
		"int x1() { x1(); lui(); } int lui() { } int main() { x1(); main(); }",
	} {
		for _, u := range compiled(program(t, text)) {
			if back, is := unit.Parse(unit.Print(u)); !unit.May(u) || !is || !unit.Same(back, u) {
				t.Errorf("%.100s: %s", text, unit.Print(u))
			}
		}
	}
}
