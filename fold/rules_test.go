package fold_test

import (
	"math"
	"reflect"
	"slices"
	"testing"

	"brazier/api"
	"brazier/flow"
	"brazier/fold"
	"brazier/sample"
)

// Rule 3: nil and empty lists are one.
func TestNilAndEmpty(t *testing.T) {
	f := fn(t, "fn main 1 2; block 0; jump 1; block 1; f(); r1 = r0 + r1; return r1")
	g := sample.CopyFn(f)
	g.Blocks[0].Ins = []api.Ins{}
	for i := range g.Blocks[1].Ins {
		g.Blocks[1].Ins[i].Args = []int{}
	}
	if !flow.Same(fold.Fn(g), fold.Fn(f)) || !flow.Same(fold.Trim(g), f) || shown(fold.Knows(g)) != shown(fold.Knows(f)) || !slices.Equal(fold.Reach(g), []int{0, 1}) {
		t.Error(flow.Print(fold.Fn(g)))
	}
	if got := fold.Mid(api.Mid{Globals: []api.Global{}, Fns: []api.Fn{}}); len(got.Globals) != 0 || len(got.Fns) != 0 {
		t.Errorf("%+v", got)
	}
}

// Rules 4 and 6: what is handed in stays as it is; answers are new memory, and hang on it alone.
func TestArgumentsStay(t *testing.T) {
	m := newMaker(4)
	for range rounds(4000) {
		p := sample.CopyMid(m.Mid())
		kept := sample.CopyMid(p)
		f := p.Fns[0]
		mid, folds, trims := fold.Mid(p), fold.Fn(f), fold.Trim(f)
		known, reach := fold.Knows(f), fold.Reach(f)
		want, text := sample.CopyFn(folds), shown(known)
		for _, g := range append(mid.Fns, folds, trims) {
			spoil(g)
		}
		mid.Globals[0] = api.Global{Name: "spoilt"}
		clear(known[0])
		clear(reach)
		if !reflect.DeepEqual(p, kept) {
			t.Fatalf("%s; was %s", printed(p), printed(kept))
		}
		if again := fold.Fn(f); !flow.Same(again, want) || shown(fold.Knows(f)) != text {
			t.Fatalf("%s; was %s", flow.Print(again), flow.Print(want))
		}
	}
}

// spoil turns all that a function's lists have.
func spoil(f api.Fn) {
	for j := range f.Blocks {
		b := &f.Blocks[j]
		for k := range b.Ins {
			for n := range b.Ins[k].Args {
				b.Ins[k].Args[n] = 99
			}
			b.Ins[k] = api.Ins{}
		}
		*b = api.Block{}
	}
}

// Rule 4: spare room isn't used.
func TestSpareRoom(t *testing.T) {
	f := fn(t, "fn f 1 2; block 0; r1 = r0; print r1; print r0; branch r0 0 1; block 1; return r1; block 2; jump 0; block 3; jump 0")
	g := sample.CopyFn(f)
	g.Blocks[0].Ins = g.Blocks[0].Ins[:1]
	g.Blocks = g.Blocks[:3]
	for _, made := range []func(api.Fn) api.Fn{fold.Fn, fold.Trim} {
		h := made(g)
		h.Blocks[0].Ins = append(h.Blocks[0].Ins, api.Ins{})
		_ = append(h.Blocks, api.Block{}, api.Block{})
	}
	g.Blocks[0].Ins = g.Blocks[0].Ins[:3]
	g.Blocks = g.Blocks[:4]
	if !flow.Same(f, g) {
		t.Error(flow.Print(g))
	}
}

// Of functions that may not be nothing is promised, but each call ends, without a panic.
func TestAnyFunctions(t *testing.T) {
	m := newMaker(1)
	for range rounds(20000) {
		f := sample.CopyFn(m.Fn())
		for range 1 + m.Intn(4) {
			m.Bend(&f)
		}
		all(f)
	}
	for _, f := range []api.Fn{
		{}, {Blocks: []api.Block{{}}}, {Regs: math.MaxInt, Blocks: []api.Block{{Kind: api.BlReturn}}}, {Regs: 1 << 40, Blocks: []api.Block{{Kind: api.BlReturn}}}, {Regs: math.MinInt, Blocks: []api.Block{{Kind: api.BlReturn}}}, {Params: math.MaxInt, Regs: 1, Blocks: []api.Block{{Kind: api.BlReturn}}},
		{Blocks: []api.Block{{Kind: api.BlJump, To: 1}}}, {Blocks: []api.Block{{Kind: api.BlJump, To: -1}}}, {Blocks: []api.Block{{Kind: api.BlBranch, A: 1}}}, {Regs: 1, Blocks: []api.Block{{Kind: api.BlBranch, Else: math.MaxInt}}}, {Regs: 1, Blocks: []api.Block{{Ins: []api.Ins{{Kind: api.InCopy, A: -1}}, Kind: api.BlReturn}}},
	} {
		all(f)
	}
}

func all(f api.Fn) {
	fold.Knows(f)
	fold.Reach(f)
	fold.Trim(f)
	fold.Fn(f)
	fold.Mid(api.Mid{Fns: []api.Fn{f, f}})
}
