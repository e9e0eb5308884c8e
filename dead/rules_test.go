package dead_test

import (
	"math"
	"reflect"
	"slices"
	"testing"

	"brazier/api"
	"brazier/dead"
	"brazier/flow"
	"brazier/sample"
)

// Rule 3: nil and empty lists are one.
func TestNilAndEmpty(t *testing.T) {
	f := fn(t, "fn main 1 2; block 0; jump 1; block 1; f(); r1 = r0 + r1; return r0")
	g := sample.CopyFn(f)
	g.Blocks[0].Ins = []api.Ins{}
	for i := range g.Blocks[1].Ins {
		g.Blocks[1].Ins[i].Args = []int{}
	}
	in, out := dead.Live(g)
	if !flow.Same(dead.Fn(g), dead.Fn(f)) || shown(in) != "0 1; 0 1" || shown(out) != "0 1; " || len(dead.Uses(g.Blocks[1].Ins[0])) != 0 {
		t.Error(flow.Print(dead.Fn(g)), in, out)
	}
	if got := dead.Mid(api.Mid{Globals: []api.Global{}, Fns: []api.Fn{}}); len(got.Globals) != 0 || len(got.Fns) != 0 {
		t.Errorf("%+v", got)
	}
}

// Rules 4 and 6: what is handed in stays as it is; answers are new memory, and hang on it alone.
func TestArgumentsStay(t *testing.T) {
	m := newMaker(4)
	for range rounds(4000) {
		p := sample.CopyMid(m.Mid())
		kept := sample.CopyMid(p)
		f := p.Fns[0]
		mid, less := dead.Mid(p), dead.Fn(f)
		in, out := dead.Live(f)
		want := sample.CopyFn(less)
		for _, g := range append(mid.Fns, less) {
			spoil(g)
		}
		mid.Globals[0] = api.Global{Name: "spoilt"}
		for i := range in {
			clear(in[i])
			clear(out[i])
		}
		for _, b := range f.Blocks {
			for _, x := range b.Ins {
				clear(dead.Uses(x))
			}
		}
		if !reflect.DeepEqual(p, kept) {
			t.Fatalf("%s; was %s", printed(p), printed(kept))
		}
		if again := dead.Fn(f); !flow.Same(again, want) {
			t.Fatalf("%s; was %s", flow.Print(again), flow.Print(want))
		}
	}
}

// spoil turns all that a function's lists have.
func spoil(f api.Fn) {
	for j := range f.Blocks {
		b := &f.Blocks[j]
		for k := range b.Ins {
			for n := range b.Ins[k].Args {
				b.Ins[k].Args[n] = 99
			}
			b.Ins[k] = api.Ins{}
		}
		*b = api.Block{}
	}
}

// Rule 4: spare room isn't used.
func TestSpareRoom(t *testing.T) {
	f := fn(t, "fn f 1 2; block 0; r1 = r0; f(r0, r1); print r0; return r1; block 1; jump 0")
	g := sample.CopyFn(f)
	g.Blocks[0].Ins[1].Args = g.Blocks[0].Ins[1].Args[:1]
	g.Blocks[0].Ins = g.Blocks[0].Ins[:2]
	g.Blocks = g.Blocks[:1]
	h := dead.Fn(g)
	h.Blocks[0].Ins[1].Args = append(h.Blocks[0].Ins[1].Args, 77)
	h.Blocks[0].Ins = append(h.Blocks[0].Ins, api.Ins{})
	_ = append(h.Blocks, api.Block{})
	dead.Uses(g.Blocks[0].Ins[1])
	dead.Live(g)
	g.Blocks = g.Blocks[:2]
	g.Blocks[0].Ins = g.Blocks[0].Ins[:3]
	g.Blocks[0].Ins[1].Args = g.Blocks[0].Ins[1].Args[:2]
	if !flow.Same(f, g) {
		t.Error(flow.Print(g))
	}
}

// P14.1: the list of Args stays as it is.
func TestArgsStay(t *testing.T) {
	args := []int{5, 1, 5, 9}
	x := api.Ins{Kind: api.InCall, D: -1, A: 7, B: 3, Args: args[:2]}
	if got := dead.Uses(x); !slices.Equal(got, []int{1, 3, 5, 7}) || !slices.Equal(args, []int{5, 1, 5, 9}) {
		t.Error(got, args)
	}
}

// Of functions that may not be nothing is promised, but each call ends, without a panic.
func TestAnyFunctions(t *testing.T) {
	m := newMaker(1)
	for range rounds(20000) {
		f := sample.CopyFn(m.Fn())
		for range 1 + m.Intn(4) {
			m.Bend(&f)
		}
		all(f)
	}
	for _, f := range []api.Fn{
		{}, {Blocks: []api.Block{{}}}, {Regs: math.MaxInt, Blocks: []api.Block{{Kind: api.BlReturn}}}, {Regs: math.MinInt, Blocks: []api.Block{{Kind: api.BlReturn, A: math.MaxInt}}},
		{Blocks: []api.Block{{Kind: api.BlJump, To: 1}}}, {Blocks: []api.Block{{Kind: api.BlJump, To: -1}}}, {Blocks: []api.Block{{Kind: api.BlBranch, A: 1 << 40}}}, {Regs: 1, Blocks: []api.Block{{Kind: api.BlBranch, Else: math.MaxInt}}},
		{Regs: 1, Blocks: []api.Block{{Ins: []api.Ins{{Kind: api.InCall, D: -7, A: math.MaxInt, Args: []int{-1, 1 << 40}}}, Kind: api.BlReturn}}},
	} {
		all(f)
	}
}

func all(f api.Fn) {
	dead.Live(f)
	dead.Fn(f)
	dead.Mid(api.Mid{Fns: []api.Fn{f, f}})
	for _, b := range f.Blocks {
		for _, x := range b.Ins {
			dead.Uses(x)
			dead.Pure(x)
		}
	}
}
