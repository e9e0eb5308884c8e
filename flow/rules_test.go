package flow_test

import (
	"math"
	"reflect"
	"testing"

	"brazier/api"
	"brazier/flow"
	"brazier/sample"
	"brazier/syntax"
)

// Rule 3: nil and empty lists are one, as arguments.
func TestNilAndEmpty(t *testing.T) {
	m := newMaker(3)
	for range rounds(2000) {
		p := m.Prog()
		if got, want := flow.LowerAll(emptied(p)), flow.LowerAll(p); !flow.SameMid(got, want) {
			t.Fatalf("%s; want %s", printedAll(got), printedAll(want))
		}
		q := sample.CopyMid(m.Mid())
		want := flow.May(q)
		for i := range q.Fns {
			for j := range q.Fns[i].Blocks {
				b := &q.Fns[i].Blocks[j]
				for k := range b.Ins {
					b.Ins[k].Args = append([]int{}, b.Ins[k].Args...)
				}
				b.Ins = append([]api.Ins{}, b.Ins...)
			}
		}
		if flow.May(q) != want {
			t.Fatalf("%+v", q)
		}
	}
}

// emptied is a copy in which lists of nothing aren't nil.
func emptied(p api.Prog) api.Prog {
	var expr func(e api.Expr) api.Expr
	expr = func(e api.Expr) api.Expr {
		e.Kids = append([]api.Expr{}, sample.Copied(e.Kids, expr)...)
		return e
	}
	var stmt func(s api.Stmt) api.Stmt
	stmt = func(s api.Stmt) api.Stmt {
		s.Exprs, s.Kids = append([]api.Expr{}, sample.Copied(s.Exprs, expr)...), append([]api.Stmt{}, sample.Copied(s.Kids, stmt)...)
		return s
	}
	return api.Prog{Globals: append([]api.Global{}, p.Globals...), Funcs: sample.Copied(p.Funcs, func(f api.Func) api.Func {
		f.Params, f.Body = append([]string{}, f.Params...), sample.Copied(f.Body, stmt)
		return f
	})}
}

// Rules 4 and 6: what is handed in stays as it is, and answers hang on it alone; they are new memory.
func TestArgumentsStay(t *testing.T) {
	m := newMaker(4)
	for range rounds(2000) {
		p := sample.CopyProg(m.Prog())
		kept := sample.CopyProg(p)
		first := flow.LowerAll(p)
		want := sample.CopyMid(first)
		if !reflect.DeepEqual(p, kept) {
			t.Fatalf("turned what it was given\n%s", syntax.Print(kept))
		}
		spoil(&first)
		if !reflect.DeepEqual(p, kept) {
			t.Fatalf("answered what it was given\n%s", syntax.Print(kept))
		}
		if again := flow.LowerAll(p); !reflect.DeepEqual(bareMid(again), bareMid(want)) {
			t.Fatalf("%+v; was %+v\n%s", again, want, syntax.Print(p))
		}
		q := m.Mid()
		keptMid := sample.CopyMid(q)
		flow.May(q)
		flow.SameMid(q, keptMid)
		for _, f := range q.Fns {
			flow.MayFn(f)
			flow.Print(f)
		}
		if !reflect.DeepEqual(bareMid(q), bareMid(keptMid)) {
			t.Fatalf("turned what it was given: %+v", keptMid)
		}
	}
}

// spoil turns all that a Mid's lists have, spare room included.
func spoil(m *api.Mid) {
	m.Globals = m.Globals[:cap(m.Globals)]
	for i := range m.Globals {
		m.Globals[i] = api.Global{Name: "spoilt", Size: 99}
	}
	for i := range m.Fns {
		for j := range m.Fns[i].Blocks {
			b := &m.Fns[i].Blocks[j]
			for k := range b.Ins {
				for n := range b.Ins[k].Args {
					b.Ins[k].Args[n] = 99
				}
				b.Ins[k] = api.Ins{}
			}
			*b = api.Block{}
		}
	}
}

// Rule 4: the spare room of the globals that are handed in isn't used.
func TestSpareRoom(t *testing.T) {
	room := []api.Global{{Name: "g"}, {Name: "h"}, {Name: "spare"}}
	m := flow.LowerAll(api.Prog{Globals: room[:1], Funcs: []api.Func{{Name: "main"}}})
	m.Globals = append(m.Globals, api.Global{Name: "more"})
	m.Globals[0].Name = "turned"
	if room[0].Name != "g" || room[1].Name != "h" || room[2].Name != "spare" {
		t.Error(room)
	}
}

// Of programs in which something is wrong, and of trees that may not be, nothing is promised, but Lower ends, without a panic.
func TestAnyTrees(t *testing.T) {
	m := newMaker(1)
	for range rounds(4000) {
		p := sample.CopyProg(m.Prog())
		for range 1 + m.Intn(5) {
			m.bend(&p)
		}
		for _, f := range flow.LowerAll(p).Fns {
			flow.Print(f)
			flow.MayFn(f)
		}
	}
	for _, s := range []api.Stmt{
		{}, {Kind: api.StBreak}, {Kind: api.StContinue}, {Kind: api.StIf}, {Kind: api.StWhile}, {Kind: api.StReturn}, {Kind: api.StPut, Exprs: make([]api.Expr, 1)}, {Kind: api.StSet}, {Kind: api.StPrint}, {Kind: math.MinInt}, {Kind: api.StIf, Exprs: make([]api.Expr, 1)},
		{Kind: api.StPrint, Exprs: []api.Expr{{Kind: api.ExBin}}}, {Kind: api.StPrint, Exprs: []api.Expr{{Kind: api.ExUn, Op: api.Not}}}, {Kind: api.StIf, Exprs: []api.Expr{{Kind: api.ExBin, Op: api.AndAnd}}, Kids: make([]api.Stmt, 3)}, {Kind: api.StPrint, Exprs: []api.Expr{{Kind: api.ExIndex}}},
	} {
		f := api.Func{Name: "main", Body: []api.Stmt{s}}
		flow.Lower(api.Prog{}, f)
		flow.LowerAll(api.Prog{Funcs: []api.Func{f, f}})
	}
	flow.May(api.Mid{Fns: []api.Fn{{}}})
	flow.SameMid(api.Mid{}, api.Mid{Fns: []api.Fn{{}}})
}
