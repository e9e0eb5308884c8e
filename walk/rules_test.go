package walk_test

import (
	"math"
	"slices"
	"testing"

	"brazier/api"
	"brazier/sample"
	"brazier/syntax"
	"brazier/walk"
)

// Rule 3: nil and empty lists are one.
func TestNilAndEmpty(t *testing.T) {
	text := around + "int x; ; { } if (0) ; f(); print read(); while (x) ; return x + g; }"
	p := program(t, text)
	for _, input := range [][]int32{nil, {}} {
		want := api.Result{End: api.EndDone, Trace: []int32{0}, Steps: 14}
		if got := walk.Run(p, input, plenty); !equal(got, want) {
			t.Errorf("%+v; want %+v", got, want)
		}
		if got := walk.Run(emptied(p), input, plenty); !equal(got, want) {
			t.Errorf("%+v; want %+v", got, want)
		}
	}
	main := api.Prog{Globals: []api.Global{}, Funcs: []api.Func{{Name: "main", Params: []string{}, Body: []api.Stmt{}}}}
	if got := walk.Run(main, []int32{}, 0); !equal(got, api.Result{End: api.EndDone}) {
		t.Errorf("%+v", got)
	}
}

// emptied is a copy in which lists of nothing aren't nil.
func emptied(p api.Prog) api.Prog {
	p = sample.CopyProg(p)
	var expr func(l []api.Expr) []api.Expr
	expr = func(l []api.Expr) []api.Expr {
		for i := range l {
			l[i].Kids = expr(l[i].Kids)
		}
		return append([]api.Expr{}, l...)
	}
	var stmt func(l []api.Stmt) []api.Stmt
	stmt = func(l []api.Stmt) []api.Stmt {
		for i := range l {
			l[i].Exprs, l[i].Kids = expr(l[i].Exprs), stmt(l[i].Kids)
		}
		return append([]api.Stmt{}, l...)
	}
	for i := range p.Funcs {
		f := &p.Funcs[i]
		f.Params, f.Body = append([]string{}, f.Params...), stmt(f.Body)
	}
	return p
}

// Rule 4: the input's spare room stays as it is, and the input as well.
func TestInputStays(t *testing.T) {
	p := program(t, "int main() { int i; while (i < 9) { int x = read(); x = x * 2; print x; i = i + 1; } }")
	whole := list("1 2 3 4 5 6 7")
	got := walk.Run(p, whole[1:4], plenty)
	if !slices.Equal(got.Trace, list("4 6 8 0 0 0 0 0 0")) || got.Reads != 3 {
		t.Errorf("%+v", got)
	}
	if !slices.Equal(whole, list("1 2 3 4 5 6 7")) {
		t.Error(whole)
	}
}

// Rule 4: an answer is new memory.
func TestNewMemory(t *testing.T) {
	p := program(t, "int a[3]; int main() { while (1) { int x = read(); if (!x) break; print x; a[x % 3] = x; } }")
	input := list("4 5 6 0 7")
	first := walk.Run(p, input, plenty)
	kept := slices.Clone(first.Trace)
	for i := range first.Trace {
		first.Trace[i] = 99
	}
	_ = append(first.Trace, 98, 97)
	second := walk.Run(p, input, plenty)
	if !slices.Equal(second.Trace, kept) || !slices.Equal(input, list("4 5 6 0 7")) {
		t.Errorf("%d, then %d, of %d", kept, second.Trace, input)
	}
	clear(input)
	if !slices.Equal(second.Trace, kept) {
		t.Error(second.Trace)
	}
}

// Rule 6: a run hangs on its arguments alone, and leaves nothing behind.
func TestAgain(t *testing.T) {
	m := newMaker(6)
	var progs []api.Prog
	var inputs [][]int32
	var want []api.Result
	for range rounds(1000) {
		progs, inputs = append(progs, sample.CopyProg(m.Prog())), append(inputs, m.Input())
		want = append(want, walk.Run(progs[len(progs)-1], inputs[len(progs)-1], 300))
	}
	for i, p := range slices.Backward(progs) {
		if got := walk.Run(p, inputs[i], 300); !equal(got, want[i]) {
			t.Errorf("%+v; was %+v\n%s", got, want[i], syntax.Print(p))
		}
	}
	p := program(t, "int n; int a[2]; int main() { n = n + 1; a[1] = a[1] + 2; print n; return a[1]; }")
	for range 3 {
		if got := walk.Run(p, nil, plenty); got.Value != 2 || !slices.Equal(got.Trace, list("1")) {
			t.Errorf("%+v", got)
		}
	}
}

// Of programs in which something is wrong nothing is promised, but Run ends, without a panic.
func TestWrongPrograms(t *testing.T) {
	for _, text := range []string{
		"", "int x;", "int f() { }", "int main(int x) { return x; }", "int main; int f() { main = 1; }", "int main() { x = 1; }", "int main() { return x; }", "int main() { print x[1]; }", "int main() { x[1] = 2; }", "int main() { f(); }", "int main() { print f(1); }",
		"int f(int x, int y) { return x + y; } int main() { print f(1); }", "int f() { } int main() { f(1, 2); }", "int g; int main() { g(); g[1] = 2; print g[0]; }", "int a[2]; int main() { a = 1; print a; a(); }", "int f() { } int main() { f = 1; print f; }",
		"int main() { break; }", "int main() { continue; print 1; }", "int x; int x; int main() { print x; }", "int main() { } int main() { print 1; }", "int main() { int x; int x; print x; }", "int a[4096]; int b[4096]; int c[4096]; int d[4096]; int e; int main() { print e; }",
	} {
		p, err, _ := syntax.Parse(text)
		if err != api.OK {
			t.Fatal(text)
		}
		for _, fuel := range []int{-1, 0, 1, 2, 5, 100} {
			walk.Run(p, list("1 2"), fuel)
		}
	}
	walk.Run(api.Prog{Globals: []api.Global{{Name: "a", Size: math.MaxInt}}, Funcs: []api.Func{{Name: "main"}}}, nil, 9)
	walk.Run(api.Prog{Globals: []api.Global{{Name: "a", Size: math.MinInt}}, Funcs: []api.Func{{Name: "main"}}}, nil, 9)
}

// Of trees that may not be nothing is promised, but Run ends, without a panic.
func TestAnyTrees(t *testing.T) {
	m := newMaker(1)
	for range rounds(20000) {
		p := sample.CopyProg(m.Prog())
		for i := range p.Funcs {
			f := &p.Funcs[i]
			f.Body = sample.Copied(f.Body, m.bentStmt)
			if m.Intn(30) == 0 {
				f.Params = append(f.Params, "x")
			}
		}
		if m.Intn(30) == 0 {
			p.Globals = append(p.Globals, api.Global{Name: one(m, "a", "v"), Size: one(m, -1, -5, 0, math.MinInt, math.MaxInt)})
		}
		walk.Run(p, m.Input(), 200)
	}
}

func (m *maker) bentExpr(e api.Expr) api.Expr {
	e.Kids = sample.Copied(e.Kids, m.bentExpr)
	switch m.Intn(80) {
	case 0:
		e.Kind = m.Intn(10) - 1
	case 1:
		e.Op = m.Intn(24) - 1
	case 2:
		e.Kids = e.Kids[:m.Intn(len(e.Kids)+1)]
	case 3:
		e.Kids = append(e.Kids, m.Num())
	case 4:
		e.Num = -e.Num
	}
	return e
}

func (m *maker) bentStmt(s api.Stmt) api.Stmt {
	s.Exprs, s.Kids = sample.Copied(s.Exprs, m.bentExpr), sample.Copied(s.Kids, m.bentStmt)
	switch m.Intn(40) {
	case 0:
		s.Kind = m.Intn(14) - 1
	case 1:
		s.Exprs = s.Exprs[:m.Intn(len(s.Exprs)+1)]
	case 2:
		s.Exprs = append(s.Exprs, m.Num())
	case 3:
		s.Kids = s.Kids[:m.Intn(len(s.Kids)+1)]
	case 4:
		s.Kids = append(s.Kids, api.Stmt{Kind: m.Intn(14) - 1})
	}
	return s
}
