package sample_test

import (
	"math/rand"
	"reflect"
	"strings"
	"testing"

	"brazier/api"
	"brazier/asm"
	"brazier/check"
	"brazier/flow"
	"brazier/sample"
	"brazier/syntax"
	"brazier/unit"
)

func newMaker(seed int64) *sample.Maker { return sample.New(rand.New(rand.NewSource(seed)).Intn) }

// What is made is right: nothing is wrong with programs, Mids may be; and it is the same for the same numbers.
func TestMade(t *testing.T) {
	m, again := newMaker(1), newMaker(1)
	for range 2000 {
		p := m.Prog()
		if d := check.Check(p); d != (api.Diag{}) || !syntax.May(p) {
			t.Fatalf("%+v\n%s", d, syntax.Print(p))
		}
		q := m.Mid()
		if !flow.May(q) {
			t.Fatalf("%+v may not be", q)
		}
		if !syntax.Same(p, again.Prog()) || !flow.SameMid(q, again.Mid()) || !reflect.DeepEqual(m.Input(), again.Input()) {
			t.Fatal("another one from the same numbers")
		}
		if f := m.Fn(); !flow.MayFn(f) || f.Name != again.Fn().Name {
			t.Fatalf("%+v may not be", f)
		}
	}
}

// Graphs may be, in all their ways to end; bent functions mostly may not.
func TestGraphsAndBent(t *testing.T) {
	m, again := newMaker(4), newMaker(4)
	kinds, bent := map[int]int{}, 0
	for range 2000 {
		f := m.Graph(6)
		if !flow.MayFn(f) || len(f.Blocks) > 6 || !flow.Same(f, again.Graph(6)) {
			t.Fatalf("%+v", f)
		}
		kinds[f.Blocks[0].Kind]++
		g, same := sample.CopyFn(m.Fn()), sample.CopyFn(again.Fn())
		m.Bend(&g)
		again.Bend(&same)
		if !flow.Same(g, same) {
			t.Fatalf("%+v; want %+v", same, g)
		}
		if !flow.MayFn(g) {
			bent++
		}
	}
	if kinds[api.BlJump] < 200 || kinds[api.BlBranch] < 200 || kinds[api.BlReturn] < 200 || bent < 1000 {
		t.Error(kinds, bent)
	}
	m.Bend(&api.Fn{})
}

// Lines and programs of the machine may be, each instruction is made, with symbols and without; bent ones mostly may not.
func TestMachine(t *testing.T) {
	m, again := newMaker(5), newMaker(5)
	ops, syms, bent := map[int]int{}, 0, 0
	for n := range 5000 {
		l, x, a := m.Line(), m.Op(1+n%sample.Ops), m.Asm()
		if !asm.MayLine(l) || !asm.MayLine(x) || x.Sym != "" || !asm.May(a) {
			t.Fatalf("%+v, %+v, %+v", l, x, a)
		}
		y, b := x, sample.CopyAsm(a)
		if l != again.Line() || x != again.Op(1+n%sample.Ops) || !asm.Same(a, again.Asm()) {
			t.Fatal("another one from the same numbers")
		}
		m.BendLine(&x)
		m.BendAsm(&a)
		if again.BendLine(&y); x != y {
			t.Fatal("bent in another way by the same numbers")
		}
		if again.BendAsm(&b); !asm.Same(a, b) {
			t.Fatal("bent in another way by the same numbers")
		}
		ops[l.Op]++
		if l.Op != 0 && l.Sym != "" {
			syms++
		}
		if !asm.MayLine(x) && !asm.May(a) {
			bent++
		}
	}
	if len(ops) != sample.Ops+1 || syms < 100 || bent < 1000 {
		t.Error(ops, syms, bent)
	}
}

// Units may be, with places, jumps to them and calls; bent ones mostly may not. A copy is the same, and shares nothing.
func TestUnits(t *testing.T) {
	m, again := newMaker(6), newMaker(6)
	places, calls, bent := 0, 0, 0
	for range 3000 {
		u := m.Unit()
		if !unit.May(u) || !unit.Same(u, again.Unit()) {
			t.Fatalf("%+v", u)
		}
		places += strings.Count(unit.Print(u), ", .")
		calls += strings.Count(unit.Print(u), "jal") - strings.Count(unit.Print(u), ", .")
		v, w, kept := sample.CopyUnit(u), sample.CopyUnit(u), unit.Print(u)
		if !unit.Same(u, v) {
			t.Fatal("a copy isn't the same")
		}
		m.BendUnit(&v)
		if again.BendUnit(&w); !unit.Same(v, w) {
			t.Fatal("bent in another way by the same numbers")
		}
		if clear(w.Lines); unit.Print(u) != kept {
			t.Fatal("a copy shares something")
		}
		if !unit.May(v) {
			bent++
		}
	}
	if places < 100 || calls < 100 || bent < 1000 {
		t.Error(places, calls, bent)
	}
}

// A text is of its program, in many ways.
func TestText(t *testing.T) {
	m, again := newMaker(7), newMaker(7)
	longer := 0
	for range 1000 {
		p := m.Prog()
		text := m.Text(p)
		if q, err, at := syntax.Parse(text); err != api.OK || !syntax.Same(p, q) {
			t.Fatalf("%s: %d, %+v", text, err, at)
		}
		if again.Prog(); again.Text(p) != text {
			t.Fatal("another one from the same numbers")
		}
		if other := m.Text(p); len(other) > len(text) {
			longer++
		}
		again.Text(p)
	}
	if longer < 300 || longer > 700 {
		t.Error(longer)
	}
}

// A text is spoilt in one place, or isn't.
func TestSpoilt(t *testing.T) {
	m := newMaker(8)
	found := map[string]int{}
	for range 2000 {
		found[m.Spoilt("ab", "x", "yz")]++
	}
	for _, text := range []string{"xab", "axb", "abx", "yzab", "ayzb", "abyz", "b", "a", "ab", "xb", "ax", "yzb", "ayz"} {
		if found[text] == 0 {
			t.Errorf("never %q", text)
		}
		delete(found, text)
	}
	if len(found) > 0 || !strings.Contains(" x", m.Spoilt("", "x")) {
		t.Error(found)
	}
}

// Copies are the same, and share nothing.
func TestCopies(t *testing.T) {
	m := newMaker(2)
	for range 500 {
		p, q := m.Prog(), m.Mid()
		pText, qText := syntax.Print(p), print(q)
		pCopy, qCopy := sample.CopyProg(p), sample.CopyMid(q)
		if !syntax.Same(p, pCopy) || !flow.SameMid(q, qCopy) {
			t.Fatal("a copy isn't the same")
		}
		for i := range pCopy.Funcs {
			for j := range pCopy.Funcs[i].Body {
				s := &pCopy.Funcs[i].Body[j]
				for k := range s.Exprs {
					s.Exprs[k] = api.Expr{}
				}
				for k := range s.Kids {
					s.Kids[k] = api.Stmt{}
				}
				*s = api.Stmt{}
			}
		}
		for i := range qCopy.Fns {
			for j := range qCopy.Fns[i].Blocks {
				b := &qCopy.Fns[i].Blocks[j]
				for k := range b.Ins {
					clear(b.Ins[k].Args)
					b.Ins[k].D = 77
				}
				b.Kind = 0
			}
		}
		if syntax.Print(p) != pText || print(q) != qText {
			t.Fatal("a copy shares something")
		}
	}
}

func print(m api.Mid) string {
	var out strings.Builder
	for _, f := range m.Fns {
		out.WriteString(flow.Print(f))
	}
	return out.String()
}

// Renamed functions do the same by names of their own.
func TestRenamed(t *testing.T) {
	p, _, _ := syntax.Parse("int x; int f(int a, int b) { int c = a; { int c = c + b; a = c; } while (a) int b = b; x = a; c = 1; } int main() { }")
	f, count := sample.Renamed(p.Funcs[0])
	const want = "int f(int own0, int own1) {\n\tint own2 = own0;\n\t{\n\t\tint own3 = own2 + own1;\n\t\town0 = own3;\n\t}\n\twhile (own0)\n\t\tint own4 = own1;\n\tx = own0;\n\town2 = 1;\n}\n"
	if got := syntax.PrintFunc(f); got != want || count != 5 {
		t.Errorf("%d: %s", count, got)
	}
	if !strings.Contains(syntax.Print(p), "int c = c + b;") {
		t.Error("turned what it was given")
	}
}

// What layer 11 prints is read as the same, with ; in place of line ends too.
func TestBlocks(t *testing.T) {
	m := newMaker(3)
	for range 1000 {
		q := m.Mid()
		for _, text := range []string{print(q), strings.ReplaceAll(print(q), "\n", ";"), strings.ReplaceAll(print(q), "\n\t", " ; ")} {
			if got := (api.Mid{Globals: q.Globals, Fns: sample.Blocks(text)}); !flow.SameMid(got, q) {
				t.Fatalf("%s; was %s", print(got), text)
			}
		}
	}
	for _, line := range []string{"r0 =", "= r1", "print", "r0 r1 = r2", "what", "r0 = num", "r0 = r1 + "} {
		l := sample.Blocks("fn f 0 3; block 0; " + line + "; return r0")
		if len(l) != 1 || len(l[0].Blocks) != 1 || len(l[0].Blocks[0].Ins) != 1 {
			t.Errorf("%q: %+v", line, l)
		}
	}
	if l := sample.Blocks("x; fn f; block 0; r0 = num 1; fn f 0 1; r0 = num 1; block 0; what"); len(l) != 1 || len(l[0].Blocks) != 1 || flow.MayFn(l[0]) {
		t.Errorf("%+v", l)
	}
}
