package unit_test

import (
	"reflect"
	"strings"
	"testing"

	"brazier/api"
	"brazier/link"
	"brazier/riscv"
	"brazier/sample"
	"brazier/syntax"
	"brazier/unit"
	"brazier/walk"
)

// image is a program of units, loaded.
func image(t *testing.T, p api.Prog) *riscv.Image {
	t.Helper()
	m, err := riscv.Load(link.Link(p.Globals, compiled(p)))
	if err != api.OK {
		t.Fatalf("%d: %s", err, syntax.Print(p))
	}
	return m
}

// does tells that a program of units ends as the program does, with the same trace, in at most so many steps; it answers how that ends.
func does(t *testing.T, p api.Prog, m *riscv.Image, input []int32, fuel int) api.Result {
	t.Helper()
	want := walk.Run(p, input, fuel)
	if want.End == api.EndDone || want.End == api.EndOpen {
		if got := m.Run(input, 700*want.Steps+3000); !walk.Begins(got, want) {
			t.Fatalf("with %d, %d: %+v; want %+v\n%s", input, fuel, got, want, syntax.Print(p))
		}
	}
	return want
}

// done tells that a program of a text ends with that value, and prints that.
func done(t *testing.T, text string, input []int32, value int32, trace ...int32) {
	t.Helper()
	p := program(t, text)
	got := does(t, p, image(t, p), input, 1000000)
	if want := (api.Result{End: api.EndDone, Value: value, Trace: trace, Reads: got.Reads}); !walk.Same(got, want) {
		t.Errorf("%.200s: %+v; want %+v", text, got, want)
	}
}

// P20.4: what programs do.
func TestPrograms(t *testing.T) {
	done(t, "int main() { }", nil, 0)
	done(t, "int main() { return 1 + 2; }", nil, 3)
	done(t, "int main() { print 2147483647 + 1; print -1 >> 33; print -7 / 2; print -7 % 2; return ~read(); }", []int32{5}, -6, -2147483648, -1, -3, -1)
	done(t, "int f(int n) { if (n < 2) return n; return f(n - 1) + f(n - 2); } int main() { print f(7); return read() / 2; }", []int32{9}, 4, 13)
	done(t, "int g; int a[5]; int turn(int by) { g = g + by; return g; } int main() { int i = 0; while (i < 5) { a[i] = turn(i); i = i + 1; } while (i) { i = i - 1; if (i == 1) continue; print a[i]; if (i < 2) break; } print i; return a[4]; }", nil, 10, 10, 6, 3, 0, 0)
	done(t, "int f(int a, int b, int c, int d, int e, int g, int h, int i) { return a - b * c + d * e - g + h * i; } int main() { return f(1, 2, 3, 4, 5, 6, 7, f(1, 1, 1, 1, 1, 1, 1, 1)); }", nil, 16)
	done(t, "int down(int n) { if (n) return down(n - 1) + 1; return 0; } int main() { return down(30); }", nil, 30)
	done(t, "int odd(int n) { return n && even(n - 1); } int even(int n) { return !n || odd(n - 1); } int main() { print odd(17); print odd(16); print even(29) || read(); print read() && read(); }", []int32{0, 1, 7}, 0, 1, 0, 0, 1)
}

// P20.4: the deepest calls of frames that are as great as may be.
func TestDeepest(t *testing.T) {
	var locals, prints strings.Builder
	for i := range 240 {
		name := "v" + strings.Repeat("i", 1+i/26) + string(rune('a'+i%26))
		locals.WriteString("int " + name + " = read(); ")
		prints.WriteString("g = g * 31 + " + name + "; ")
	}
	text := "int g; int f(int n) { " + locals.String() + "if (n) f(n - 1); " + prints.String() + "return g; } int main() { print f(30); return g; }"
	var input []int32
	for i := range 240 * 31 {
		input = append(input, int32(i*i))
	}
	p := program(t, text)
	if r := does(t, p, image(t, p), input, 10000000); r.End != api.EndDone || r.Value == 0 || r.Reads != len(input) {
		t.Errorf("%+v", r)
	}
}

// P20.4: what takes a step of the program takes few of the machine's, calls of functions that have much to put by too.
func TestSteps(t *testing.T) {
	const many = "int g; int f(int a, int b, int c, int d, int e, int h, int i, int j) { if (g) { int x = a * b; int y = c * d; int z = e * h; print f(x, y, z, i, j, x, y, z) + a + b + c + d + e + h + i + j + x * y * z; } } "
	done(t, many+"int main() { int n = 1000; while (n) { f(n, n, n, n, n, n, n, n); n = n - 1; } }", nil, 0)
	done(t, many+"int main() { int n = 1000; while (n) n = n - 1 + f(1, 2, 3, 4, 5, 6, 7, 8); }", nil, 0)
	done(t, "int main() { int n = 30000; while (n) n = n - 1; }", nil, 0)
}

// P20.4: random programs, cut off at any step too.
func TestRandomPrograms(t *testing.T) {
	m := newMaker(208)
	found := map[int]int{}
	for range rounds(3000) {
		p, input := m.Prog(), m.Input()
		own := image(t, p)
		for _, fuel := range []int{m.Intn(20), m.Intn(100), 2000} {
			found[does(t, p, own, input, fuel).End]++
		}
	}
	if found[api.EndDone] < rounds(1500) || found[api.EndOpen] < rounds(1500) {
		t.Error(found)
	}
}

// Rules 4 and 6: what is handed in stays as it is; answers are new memory, and hang on it alone.
func TestCompiledIsNew(t *testing.T) {
	m := newMaker(6)
	for range rounds(1000) {
		p := sample.CopyProg(m.Prog())
		kept := sample.CopyProg(p)
		var x unit.Pipeline
		for i, f := range p.Funcs {
			u, texts := x.Compile(p, f), unit.Passes(p, f)
			want, names := sample.CopyUnit(u), x.Names()
			clear(u.Lines[:cap(u.Lines)])
			clear(texts)
			clear(names[:cap(names)])
			if again := x.Compile(p, f); !unit.Same(again, want) || unit.Passes(p, f)[4] != unit.Print(want) {
				t.Fatalf("%s; want %s", unit.Print(again), unit.Print(want))
			}
			if names := x.Names(); len(names) != 2*i+2 || names[2*i] != f.Name || names[0] != p.Funcs[0].Name {
				t.Fatal(names)
			}
		}
		if !reflect.DeepEqual(p, kept) {
			t.Fatalf("%+v; was %+v", p, kept)
		}
	}
}

// Of programs in which something is wrong nothing is promised, but each call ends, without a panic.
func TestAnyPrograms(t *testing.T) {
	bad := []api.Func{
		{}, {Name: "f", Body: []api.Stmt{{}}}, {Name: "f", Body: []api.Stmt{{Kind: api.StSet}}}, {Name: "f", Body: []api.Stmt{{Kind: api.StBreak}}}, {Name: "f", Body: []api.Stmt{{Kind: api.StIf}}}, {Name: "f", Body: []api.Stmt{{Kind: api.StPrint, Exprs: []api.Expr{{}}}}},
		{Name: "f", Body: []api.Stmt{{Kind: api.StPrint, Exprs: []api.Expr{{Kind: api.ExBin, Op: 99}}}}}, {Name: "f", Params: make([]string, 5000)}, {Name: "int", Body: []api.Stmt{{Kind: 99}}}, {Name: "f", Body: []api.Stmt{{Kind: api.StReturn, Exprs: []api.Expr{{Kind: api.ExVar, Name: "nowhere"}}}}},
		{Name: "f", Body: []api.Stmt{{Kind: api.StReturn, Exprs: []api.Expr{{Kind: api.ExBin, Op: 99, Kids: make([]api.Expr, 2)}}}}},
	}
	var x unit.Pipeline
	for i, f := range bad {
		for _, p := range []api.Prog{{}, {Funcs: []api.Func{f}}, {Globals: make([]api.Global, 3), Funcs: []api.Func{f, f}}} {
			x.Compile(p, f)
			if texts := unit.Passes(p, f); len(texts) != 5 {
				t.Errorf("%+v: %q", f, texts)
			}
		}
		if x.Count() != 3*i+3 || x.Names()[3*i] != f.Name {
			t.Error(x.Count(), x.Names())
		}
	}
}
