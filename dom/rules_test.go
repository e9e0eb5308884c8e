package dom_test

import (
	"math"
	"reflect"
	"testing"

	"brazier/api"
	"brazier/dom"
	"brazier/flow"
	"brazier/sample"
)

// Rule 3: nil and empty lists are one.
func TestNilAndEmpty(t *testing.T) {
	f := graph(t, "1; 2 3; 1; .")
	g := sample.CopyFn(f)
	for i := range g.Blocks {
		g.Blocks[i].Ins = []api.Ins{}
	}
	if got, want := tell(g), tell(f); !reflect.DeepEqual(got, want) {
		t.Errorf("%+v; want %+v", got, want)
	}
}

// Rules 4 and 6: what is handed in stays as it is, and answers hang on it alone; they are new memory.
func TestArgumentsStay(t *testing.T) {
	m := newMaker(4)
	for range rounds(4000) {
		f := m.Graph(8)
		kept, spare := sample.CopyFn(f), f
		f.Blocks = append(f.Blocks, api.Block{Kind: 7})[:len(f.Blocks)]
		first, want := tell(f), tell(f)
		for _, l := range append(first.Preds, first.Order, first.Idom, first.Depth) {
			for i := range l {
				l[i] = 99
			}
		}
		for _, l := range first.Loops {
			clear(l.Blocks)
		}
		clear(first.Preds)
		if !flow.Same(f, kept) || !flow.Same(spare, kept) {
			t.Fatalf("turned what it was given\n%s", flow.Print(kept))
		}
		if again := tell(f); !reflect.DeepEqual(again, want) {
			t.Fatalf("%+v; was %+v\n%s", again, want, flow.Print(f))
		}
	}
}

// Of functions that may not be nothing is promised, but each call ends, without a panic.
func TestAnyFunctions(t *testing.T) {
	m := newMaker(1)
	for range rounds(10000) {
		f := sample.CopyFn(m.Fn())
		for range 1 + m.Intn(4) {
			m.Bend(&f)
		}
		tell(f)
	}
	for _, f := range []api.Fn{
		{}, {Blocks: []api.Block{{}}}, {Blocks: []api.Block{{Kind: api.BlJump, To: 1}}}, {Blocks: []api.Block{{Kind: api.BlJump, To: -1}}}, {Blocks: []api.Block{{Kind: api.BlBranch, Else: math.MaxInt}}}, {Blocks: []api.Block{{Kind: api.BlReturn}, {Kind: api.BlJump, To: math.MinInt}}},
	} {
		tell(f)
		for _, n := range []int{-1, 0, 1, math.MinInt, math.MaxInt} {
			dom.Dominates(f, n, 0)
			dom.Dominates(f, 0, n)
		}
	}
}
