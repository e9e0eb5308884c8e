package syntax

import (
	"math"
	"strings"
	"testing"

	"brazier/api"
)

// mays tells what May answers, of a program and of what it prints: P8.7.
func mays(t *testing.T, p api.Prog, want bool) {
	t.Helper()
	if May(p) != want {
		t.Errorf("May(%.300v) is %t", p, !want)
	}
	if text := Print(p); len(text) <= api.MaxText {
		q, err, _ := Parse(text)
		if same := err == api.OK && alike(p, q); same != want {
			t.Errorf("%.300q: parsed as the same: %t, %d", text, same, err)
		}
	}
}

// inMain tells what May answers of a main with this expression, in each place where there are any.
func inMain(t *testing.T, e api.Expr, want bool) {
	t.Helper()
	x := eVar("x")
	for _, s := range []api.Stmt{
		sVar("x", e), sSet("x", e), sPut("x", e, x), sPut("x", x, e), sCall("f", e), sCall("f", x, e, x), sReturn(e), sPrint(e), sIf(e, sBlock()), sWhile(e, sBlock()),
		sPrint(eIndex("a", e)), sPrint(eCall("f", x, e)), sPrint(eUn(api.Not, e)), sPrint(eBin(api.Add, e, x)), sPrint(eBin(api.Add, x, e)),
	} {
		mays(t, mainOf(s), want)
	}
}

// stands tells what May answers of a main with this statement, in each place where there are any.
func stands(t *testing.T, s api.Stmt, want bool) {
	t.Helper()
	x := eVar("x")
	for _, at := range [][]api.Stmt{
		{s}, {sBreak(), s, sBreak()}, {sBlock(s)}, {sIf(x, s)}, {sIf(x, sBreak(), s)}, {sIf(x, sBlock(s), sBreak())}, {sWhile(x, s)}, {sBlock(sBreak(), sWhile(x, sIf(x, s)))},
	} {
		mays(t, mainOf(at...), want)
	}
}

// P8.4: each kind of expression, with just what it has.
func TestMayExprs(t *testing.T) {
	x := eVar("x")
	for _, e := range []api.Expr{
		eNum(0), eNum(1), eNum(math.MaxInt32), x, eIndex("a", x), eCall("f"), eCall("f", x), eCall("f", x, x, x, x, x, x, x, x, x, x), eRead(), eUn(api.Neg, x), eBin(api.Add, x, x),
		{Kind: api.ExNum, Kids: []api.Expr{}}, {Kind: api.ExRead, Kids: []api.Expr{}}, {Kind: api.ExCall, Name: "f", Kids: []api.Expr{}},
	} {
		inMain(t, e, true)
		for _, turn := range []func(e *api.Expr){
			func(e *api.Expr) { e.Num-- },
			func(e *api.Expr) { e.Num = math.MinInt32 },
			func(e *api.Expr) { e.Op-- },
			func(e *api.Expr) { e.Op = api.OrOr + 100 },
			func(e *api.Expr) { e.Kind = 0 },
			func(e *api.Expr) { e.Kind = 8 },
			func(e *api.Expr) { e.Kind += 1 << 32 },
			func(e *api.Expr) { e.Kind = -e.Kind },
			func(e *api.Expr) { e.Name += " " },
			func(e *api.Expr) { e.Name = "int" },
			func(e *api.Expr) { e.Name = "1" },
			func(e *api.Expr) { e.Name = strings.Repeat("n", 65) },
			func(e *api.Expr) { e.Kids = append(e.Kids[:len(e.Kids):len(e.Kids)], api.Expr{}) },
		} {
			c := e
			turn(&c)
			may := e.Kind == api.ExNum && c.Kind == api.ExNum && c.Num == e.Num-1 && c.Num >= 0
			if e.Kind == api.ExBin && c.Op == e.Op-1 {
				may = c.Op >= api.Add
			}
			inMain(t, c, may)
		}
	}
}

// P8.4: kids and names that are too few, too many or where there are none.
func TestMayNotExprs(t *testing.T) {
	x := eVar("x")
	for _, e := range []api.Expr{
		{}, {Kind: api.ExNum, Num: 1, Name: "x"}, {Kind: api.ExNum, Num: 1, Op: api.Add}, {Kind: api.ExNum, Kids: []api.Expr{x}}, eNum(-1), eNum(math.MinInt32),
		eVar(""), eVar("9"), eVar("x y"), eVar("read"), eVar("é"), {Kind: api.ExVar, Name: "x", Num: 1}, {Kind: api.ExVar, Name: "x", Num: -1}, {Kind: api.ExVar, Name: "x", Op: api.Neg}, {Kind: api.ExVar, Name: "x", Kids: []api.Expr{x}},
		eIndex("a"), eIndex("a", x, x), eIndex("", x), eIndex("if", x), {Kind: api.ExIndex, Name: "a", Num: 2, Kids: []api.Expr{x}}, {Kind: api.ExIndex, Name: "a", Op: api.Add, Kids: []api.Expr{x}},
		eCall(""), eCall("f "), eCall("f", x, api.Expr{}), {Kind: api.ExCall, Name: "f", Num: 1}, {Kind: api.ExCall, Name: "f", Op: 1},
		{Kind: api.ExRead, Name: "read"}, {Kind: api.ExRead, Num: 1}, {Kind: api.ExRead, Op: 1}, {Kind: api.ExRead, Kids: []api.Expr{x}},
		eUn(api.Neg), eUn(api.Neg, x, x), eUn(api.Neg, api.Expr{}), {Kind: api.ExUn, Op: api.Neg, Name: "x", Kids: []api.Expr{x}}, {Kind: api.ExUn, Op: api.Neg, Num: 1, Kids: []api.Expr{x}},
		eBin(api.Add), eBin(api.Add, x), eBin(api.Add, x, x, x), eBin(api.Add, x, api.Expr{}), eBin(api.Add, api.Expr{}, x), {Kind: api.ExBin, Op: api.Add, Name: "x", Kids: []api.Expr{x, x}}, {Kind: api.ExBin, Op: api.Add, Num: 1, Kids: []api.Expr{x, x}},
	} {
		inMain(t, e, false)
	}
}

// P8.4: the operators that a kind has.
func TestMayOps(t *testing.T) {
	x := eVar("x")
	for op := -3; op <= 30; op++ {
		inMain(t, eBin(op, x, x), op >= api.Add && op <= api.OrOr)
		inMain(t, eUn(op, x), op >= api.Neg && op <= api.Inv)
	}
	for _, op := range []int{math.MinInt, math.MaxInt, 1<<32 + api.Add, 1<<32 + api.Neg} {
		inMain(t, eBin(op, x, x), false)
		inMain(t, eUn(op, x), false)
	}
}

// P8.4: each kind of statement, with each number of expressions and of kids, with and without a name.
func TestMayStatements(t *testing.T) {
	has := map[int]struct {
		name                         bool
		exprs, toExprs, kids, toKids int
	}{
		api.StVar: {true, 0, 1, 0, 0}, api.StSet: {true, 1, 1, 0, 0}, api.StPut: {true, 2, 2, 0, 0}, api.StCall: {true, 0, 9, 0, 0}, api.StIf: {false, 1, 1, 1, 2}, api.StWhile: {false, 1, 1, 1, 1},
		api.StBreak: {}, api.StContinue: {}, api.StReturn: {false, 1, 1, 0, 0}, api.StPrint: {false, 1, 1, 0, 0}, api.StBlock: {false, 0, 0, 0, 9},
	}
	for kind := -2; kind <= 14; kind++ {
		want, known := has[kind]
		for exprs := range 5 {
			for kids := range 5 {
				for _, name := range []string{"", "x", "while", "x-"} {
					s := api.Stmt{Kind: kind, Name: name}
					for range exprs {
						s.Exprs = append(s.Exprs, eNum(1))
					}
					for range kids {
						s.Kids = append(s.Kids, sBreak())
					}
					may := known && exprs >= want.exprs && exprs <= want.toExprs && kids >= want.kids && kids <= want.toKids
					stands(t, s, may && (want.name && name == "x" || !want.name && name == ""))
				}
			}
		}
	}
	stands(t, sIf(eNum(1), api.Stmt{}), false)
	stands(t, sIf(eNum(1), sBreak(), api.Stmt{}), false)
	stands(t, sWhile(eNum(1), api.Stmt{}), false)
	stands(t, sBlock(sBreak(), api.Stmt{Kind: 99}), false)
	stands(t, api.Stmt{Kind: 1<<32 + api.StBreak}, false)
	stands(t, api.Stmt{Kind: api.StBreak, Exprs: []api.Expr{}, Kids: []api.Stmt{}}, true)
}

// P8.4: no first kid of an if with two is open.
func TestMayElse(t *testing.T) {
	x := eVar("x")
	open := []api.Stmt{
		sIf(x, sBreak()), sIf(x, sBlock(sIf(x, sBreak()))), sIf(x, sIf(x, sBreak(), sBreak())),
		sWhile(x, sIf(x, sBreak())), sIf(x, sBreak(), sIf(x, sBreak())), sIf(x, sBlock(), sWhile(x, sIf(x, sBlock(), sIf(x, sBlock())))), sWhile(x, sWhile(x, sIf(x, sBreak()))), sIf(x, sIf(x, sBreak())),
	}
	closed := []api.Stmt{
		sBreak(), sBlock(), sVar("x"), sBlock(sIf(x, sBreak())), sBlock(sBlock(), sIf(x, sBreak())), sIf(x, sBreak(), sBreak()), sIf(x, sBreak(), sBlock(sIf(x, sBreak()))), sWhile(x, sBreak()), sWhile(x, sIf(x, sBreak(), sBreak())), sWhile(x, sBlock(sIf(x, sBreak()))), sIf(x, sIf(x, sBreak(), sBreak()), sWhile(x, sBlock())),
	}
	for _, s := range open {
		stands1(t, s)
		stands(t, sIf(x, s, sBreak()), false)
		stands(t, sIf(x, sWhile(x, s), sBreak()), false)
		stands(t, sIf(x, sIf(x, sBreak(), s), sBreak()), false)
		stands(t, sIf(x, sBlock(s), sBreak()), true)
		mays(t, mainOf(sIf(x, sBreak(), s)), true)
		mays(t, mainOf(sIf(x, s)), true)
	}
	for _, s := range closed {
		stands(t, s, true)
		stands(t, sIf(x, s, sBreak()), true)
		stands(t, sIf(x, sWhile(x, s), s), true)
		stands(t, sIf(x, sIf(x, s, s), s), true)
		stands(t, sIf(x, sIf(x, s), sBreak()), false)
		mays(t, mainOf(sIf(x, s, sIf(x, s))), true)
	}
}

// stands1 tells that a main of that statement may be.
func stands1(t *testing.T, s api.Stmt) {
	t.Helper()
	mays(t, mainOf(s), true)
	mays(t, mainOf(s, s), true)
}

// P8.4: names, sizes and counts.
func TestMayCounts(t *testing.T) {
	mays(t, api.Prog{}, true)
	mays(t, api.Prog{Globals: []api.Global{}, Funcs: []api.Func{}}, true)
	for name, may := range map[string]bool{
		"x": true, "_": true, "main": true, strings.Repeat("n", 64): true, "": false, strings.Repeat("n", 65): false, "int": false, "read": false, "1x": false, "x ": false, "x;": false, "x/**/": false, "ü": false,
	} {
		mays(t, prog(api.Global{Name: name}), may)
		mays(t, prog(api.Global{Name: name, Size: 5}), may)
		mays(t, prog(fn(name, nil)), may)
		mays(t, prog(fn("f", []string{name})), may)
		mays(t, prog(fn("f", []string{"x", name, "y"})), may)
		for _, s := range []api.Stmt{sVar(name), sSet(name, eNum(1)), sPut(name, eNum(1), eNum(1)), sCall(name)} {
			stands(t, s, may)
		}
		for _, e := range []api.Expr{eVar(name), eIndex(name, eNum(1)), eCall(name)} {
			inMain(t, e, may)
		}
	}
	for size, may := range map[int]bool{
		0: true, 1: true, 2: true, api.MaxWords - 1: true, api.MaxWords: true, api.MaxWords + 1: false, -1: false, math.MinInt: false, math.MaxInt: false, 1<<32 + 1: false,
	} {
		mays(t, prog(api.Global{Name: "a", Size: size}), may)
		mays(t, prog(api.Global{Name: "x"}, api.Global{Name: "a", Size: size}, fn("f", nil)), may)
	}
	mays(t, prog(api.Global{Name: "x"}, api.Global{Name: "x"}, fn("x", []string{"x", "x"}), fn("x", nil)), true)
	var full api.Prog
	for range api.MaxGlobals {
		full.Globals = append(full.Globals, api.Global{Name: "x"})
	}
	for range api.MaxFuncs {
		full.Funcs = append(full.Funcs, fn("f", strings.Fields("a b c d e f g h")))
	}
	mays(t, full, true)
	for _, turn := range []func(p *api.Prog){
		func(p *api.Prog) { p.Globals = append(p.Globals, api.Global{Name: "y"}) },
		func(p *api.Prog) { p.Funcs = append(p.Funcs, fn("g", nil)) },
		func(p *api.Prog) { p.Funcs[0].Params = append(p.Funcs[0].Params, "i") },
		func(p *api.Prog) { p.Funcs[api.MaxFuncs-1].Params = append(p.Funcs[api.MaxFuncs-1].Params, "i") },
	} {
		c := cloneProg(full)
		turn(&c)
		mays(t, c, false)
	}
}

// P8.4: the Depth of a function up to MaxNest.
func TestMayDepth(t *testing.T) {
	for n := api.MaxNest - 2; n <= api.MaxNest+2; n++ {
		e, s := eNum(1), sBlock()
		for range n - 2 {
			e = eUn(api.Inv, e)
		}
		for range n - 1 {
			s = sBlock(s, sBreak())
		}
		for _, body := range [][]api.Stmt{{sPrint(e)}, {s}, {sBreak(), s}, {sPrint(e), sBreak()}} {
			mays(t, mainOf(body...), n <= api.MaxNest)
			mays(t, prog(fn("f", nil), fn("g", nil, body...), fn("h", nil)), n <= api.MaxNest)
		}
	}
}
