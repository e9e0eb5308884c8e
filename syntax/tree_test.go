package syntax

import (
	"strings"
	"testing"

	"brazier/api"
)

// P8.3: the Depth, of whatever is a tree.
func TestDepth(t *testing.T) {
	x := eVar("x")
	neg := eUn(api.Neg, x)            // 2
	sum := eBin(api.Add, x, neg)      // 3
	odd := api.Expr{Kind: 99}         // 1: a kind plays no part
	many := eNum(1)                   // a number with kids
	many.Kids = []api.Expr{x, sum, x} // 4
	for _, c := range []struct {
		want int
		body []api.Stmt
	}{
		{0, nil}, {0, []api.Stmt{}},
		{1, []api.Stmt{{}}}, {1, []api.Stmt{sBreak()}}, {1, []api.Stmt{sBlock(), sBreak(), sVar("x")}},
		{2, []api.Stmt{sPrint(x)}}, {2, []api.Stmt{sBlock(sBreak())}}, {2, []api.Stmt{sBlock(sBlock(), sBlock())}},
		{3, []api.Stmt{sPrint(neg)}}, {4, []api.Stmt{sPrint(sum)}}, {4, []api.Stmt{sBreak(), sPrint(sum), sBreak()}}, {5, []api.Stmt{sPrint(many)}},
		{4, []api.Stmt{sPut("a", x, sum)}}, {4, []api.Stmt{sPut("a", sum, x)}}, {3, []api.Stmt{sCall("f", x, neg, x)}}, {2, []api.Stmt{sPrint(odd)}},
		{2, []api.Stmt{sIf(x, sBreak())}}, {3, []api.Stmt{sIf(x, sBreak(), sPrint(x))}}, {3, []api.Stmt{sIf(x, sPrint(x), sBreak())}}, {4, []api.Stmt{sIf(sum, sPrint(x), sBreak())}},
		{6, []api.Stmt{sWhile(neg, sWhile(x, sPrint(sum)))}}, {5, []api.Stmt{sBlock(sBlock(sBlock(sBlock(sBreak()))))}},
		{3, []api.Stmt{{Kind: api.StBreak, Kids: []api.Stmt{sBreak(), sBlock(sBreak())}}}}, {4, []api.Stmt{{Kind: -7, Exprs: []api.Expr{sum}}}},
		{4, []api.Stmt{sPrint(eIndex("a", eIndex("a", x)))}}, {4, []api.Stmt{sPrint(eCall("f", x, eCall("f", x), x))}},
	} {
		if n := Depth(fn("f", []string{"x"}, c.body...)); n != c.want {
			t.Errorf("Depth of %+v is %d; want %d", c.body, n, c.want)
		}
	}
}

// changes are programs that differ from p in one field each, somewhere.
func changes(p api.Prog) []api.Prog {
	var out []api.Prog
	one := func(turn func(p *api.Prog)) {
		c := cloneProg(p)
		turn(&c)
		out = append(out, c)
	}
	expr := func(at func(p *api.Prog) *api.Expr) {
		one(func(p *api.Prog) { at(p).Kind++ })
		one(func(p *api.Prog) { at(p).Kind += 1 << 32 })
		one(func(p *api.Prog) { at(p).Num++ })
		one(func(p *api.Prog) { at(p).Op++ })
		one(func(p *api.Prog) { at(p).Name += "x" })
		one(func(p *api.Prog) { at(p).Kids = append(at(p).Kids, api.Expr{}) })
		one(func(p *api.Prog) { at(p).Kids = append([]api.Expr{{}}, at(p).Kids...) })
	}
	stmt := func(at func(p *api.Prog) *api.Stmt) {
		one(func(p *api.Prog) { at(p).Kind++ })
		one(func(p *api.Prog) { at(p).Name += "x" })
		one(func(p *api.Prog) { at(p).Exprs = append(at(p).Exprs, api.Expr{}) })
		one(func(p *api.Prog) { at(p).Kids = append(at(p).Kids, api.Stmt{}) })
		one(func(p *api.Prog) { at(p).Kids = append([]api.Stmt{{}}, at(p).Kids...) })
	}
	one(func(p *api.Prog) { p.Globals[1].Name = "z" })
	one(func(p *api.Prog) { p.Globals[1].Size++ })
	one(func(p *api.Prog) { p.Globals = p.Globals[1:] })
	one(func(p *api.Prog) { p.Globals = p.Globals[:1] })
	one(func(p *api.Prog) { p.Globals = nil })
	one(func(p *api.Prog) { p.Globals[0], p.Globals[1] = p.Globals[1], p.Globals[0] })
	one(func(p *api.Prog) { p.Globals = append(p.Globals, api.Global{}) })
	one(func(p *api.Prog) { p.Funcs[0], p.Funcs[1] = p.Funcs[1], p.Funcs[0] })
	one(func(p *api.Prog) { p.Funcs = p.Funcs[1:] })
	one(func(p *api.Prog) { p.Funcs = append(p.Funcs, api.Func{}) })
	one(func(p *api.Prog) { p.Funcs[1].Name = "z" })
	one(func(p *api.Prog) { p.Funcs[1].Params[1] = "z" })
	one(func(p *api.Prog) { p.Funcs[1].Params = p.Funcs[1].Params[:1] })
	one(func(p *api.Prog) { p.Funcs[1].Params = append(p.Funcs[1].Params, "") })
	one(func(p *api.Prog) { p.Funcs[1].Body = p.Funcs[1].Body[1:] })
	one(func(p *api.Prog) { p.Funcs[1].Body = append(p.Funcs[1].Body, api.Stmt{}) })
	stmt(func(p *api.Prog) *api.Stmt { return &p.Funcs[1].Body[1] })
	stmt(func(p *api.Prog) *api.Stmt { return &p.Funcs[1].Body[1].Kids[1] })
	expr(func(p *api.Prog) *api.Expr { return &p.Funcs[1].Body[1].Exprs[0] })
	expr(func(p *api.Prog) *api.Expr { return &p.Funcs[1].Body[1].Kids[1].Exprs[1] })
	expr(func(p *api.Prog) *api.Expr { return &p.Funcs[1].Body[1].Kids[1].Exprs[1].Kids[1] })
	expr(func(p *api.Prog) *api.Expr { return &p.Funcs[1].Body[1].Kids[1].Exprs[1].Kids[1].Kids[0] })
	return out
}

// P8.6: Same and SameFunc, of programs that differ in just one field.
func TestSame(t *testing.T) {
	p, err, _ := Parse("int x; int a[3]; int f() {} int g(int x, int y) { ; if (x) break; else a[1] = x + f(-y); }")
	if err != api.OK {
		t.Fatal(err)
	}
	all := changes(p)
	if len(all) < 50 {
		t.Fatal(len(all))
	}
	if !Same(p, p) || !Same(p, cloneProg(p)) || !Same(cloneProg(p), p) || !SameFunc(p.Funcs[1], cloneFunc(p.Funcs[1])) {
		t.Error("a program isn't the same as itself")
	}
	for i, c := range all {
		if Same(p, c) || Same(c, p) || !Same(c, cloneProg(c)) {
			t.Errorf("change %d: %+v", i, c)
		}
		for j, d := range all {
			if Same(c, d) != alike(c, d) {
				t.Errorf("changes %d and %d: %+v, %+v", i, j, c, d)
			}
		}
		if len(c.Funcs) == 2 {
			if SameFunc(p.Funcs[1], c.Funcs[1]) != alike(prog(p.Funcs[1]), prog(c.Funcs[1])) {
				t.Errorf("SameFunc of change %d: %+v", i, c)
			}
		}
	}
}

// P8.6, rule 3: what is nil and what is empty is one; what a kind doesn't have counts all the same.
func TestSameOfNone(t *testing.T) {
	empty := api.Prog{
		Globals: []api.Global{},
		Funcs:   []api.Func{{Params: []string{}, Body: []api.Stmt{{Exprs: []api.Expr{{Kids: []api.Expr{}}}, Kids: []api.Stmt{{Exprs: []api.Expr{}, Kids: []api.Stmt{}}}}}}},
	}
	if c := cloneProg(empty); !Same(empty, c) || !Same(c, empty) || !SameFunc(empty.Funcs[0], c.Funcs[0]) {
		t.Error("nil isn't empty")
	}
	if !Same(api.Prog{}, api.Prog{Globals: []api.Global{}, Funcs: []api.Func{}}) || !SameFunc(api.Func{}, api.Func{Params: []string{}, Body: []api.Stmt{}}) {
		t.Error("nothing isn't nothing")
	}
	if Same(api.Prog{}, prog(api.Func{})) || Same(prog(api.Global{}), api.Prog{}) {
		t.Error("something is nothing")
	}
	a, b := sBreak(), sBreak()
	a.Name = "x"
	if SameFunc(fn("f", nil, a), fn("f", nil, b)) {
		t.Error("a Name doesn't count")
	}
}

// Trees may be as deep as there are levels of nesting at all.
func TestDeepTrees(t *testing.T) {
	const deep = 1 << 16
	e := eVar("x")
	for range deep - 2 {
		e = eUn(api.Neg, e)
	}
	f := fn("f", nil, sPrint(e))
	if n := Depth(f); n != deep {
		t.Error(n)
	}
	if s, want := PrintExpr(e), nest(deep-3, "-(", "-x", ")"); s != want {
		t.Errorf("%.100q", s)
	}
	if s, want := PrintFunc(f), "int f() {\n\tprint "+nest(deep-3, "-(", "-x", ")")+";\n}\n"; s != want {
		t.Errorf("%.100q", s)
	}
	if !SameFunc(f, fn("f", nil, sPrint(e))) || SameFunc(f, fn("f", nil, sPrint(eUn(api.Neg, e)))) || May(prog(f)) {
		t.Error("SameFunc, or May")
	}
	s := sBreak()
	for range 3000 {
		s = sWhile(eNum(1), sIf(eNum(1), s))
	}
	f = fn("f", nil, s)
	if n := Depth(f); n != 6001 || May(prog(f)) || !SameFunc(f, f) {
		t.Error(n)
	}
	if s := PrintFunc(f); strings.Count(s, "while (1)\n") != 3000 || !strings.Contains(s, "\n"+repeat("\t", 6001)+"break;\n}\n") {
		t.Errorf("%.100q", s)
	}
}
