package pick_test

import (
	"math"
	"reflect"
	"testing"

	"brazier/api"
	"brazier/pick"
	"brazier/sample"
)

// Rule 3: nil and empty lists are one.
func TestNilAndEmpty(t *testing.T) {
	f := fn(t, "fn f 0 1; block 0; k(); jump 1; block 1; return r0")
	g := sample.CopyFn(f)
	g.Blocks[0].Ins[0].Args, g.Blocks[1].Ins = []int{}, []api.Ins{}
	v := pick.Fn(g)
	if !pick.Same(pick.Fn(f), v) || pick.Print(v) != pick.Print(pick.Fn(f)) {
		t.Error(pick.Print(v))
	}
	v.Code[0].Args = []int{}
	v.Code[1].Args = []int{}
	if !pick.May(v) || !pick.Same(pick.Fn(f), v) || pick.Print(v) != pick.Print(pick.Fn(f)) {
		t.Error(pick.Print(v))
	}
}

// Rules 4 and 6: what is handed in stays as it is; answers are new memory, and hang on it alone.
func TestArgumentsStay(t *testing.T) {
	m := newMaker(4)
	for range rounds(4000) {
		f := sample.CopyFn(one(m, m.mid().Fns...))
		kept := sample.CopyFn(f)
		v := pick.Fn(f)
		want := sample.CopyVfn(v)
		pick.May(v)
		pick.Print(v)
		if !pick.Same(v, want) {
			t.Fatalf("%s; was %s", pick.Print(v), pick.Print(want))
		}
		for i := range v.Code {
			clear(v.Code[i].Args)
			v.Code[i] = api.Vins{}
		}
		if !reflect.DeepEqual(f, kept) {
			t.Fatalf("%+v; was %+v", f, kept)
		}
		if again := pick.Fn(f); !pick.Same(again, want) {
			t.Fatalf("%s; was %s", pick.Print(again), pick.Print(want))
		}
	}
}

// Rule 4: spare room isn't used.
func TestSpareRoom(t *testing.T) {
	f := fn(t, "fn f 1 2; block 0; r1 = r0; k(r0, r1); print r0; return r1; block 1; jump 0")
	g := sample.CopyFn(f)
	g.Blocks[0].Ins[1].Args = g.Blocks[0].Ins[1].Args[:1]
	g.Blocks[0].Ins = g.Blocks[0].Ins[:2]
	g.Blocks = g.Blocks[:1]
	v := pick.Fn(g)
	_ = append(v.Code[2].Args, 77)
	_ = append(v.Code, api.Vins{})
	g.Blocks = g.Blocks[:2]
	g.Blocks[0].Ins = g.Blocks[0].Ins[:3]
	g.Blocks[0].Ins[1].Args = g.Blocks[0].Ins[1].Args[:2]
	if !reflect.DeepEqual(f, g) {
		t.Errorf("%+v; was %+v", g, f)
	}
}

// Of functions that may not be nothing is promised of Fn, but each call ends, without a panic; the others are of any.
func TestAnyFunctions(t *testing.T) {
	m := newMaker(1)
	for range rounds(10000) {
		f := sample.CopyFn(one(m, m.mid().Fns...))
		for range 1 + m.Intn(4) {
			m.Bend(&f)
		}
		all(pick.Fn(f))
	}
	for _, f := range []api.Fn{
		{}, {Blocks: []api.Block{{}}}, {Params: math.MaxInt, Regs: math.MinInt, Blocks: []api.Block{{Kind: api.BlBranch, A: math.MinInt, To: math.MaxInt, Else: -7}}},
		{Blocks: []api.Block{{Ins: []api.Ins{{}, {Kind: 99}, {Kind: api.InUn}, {Kind: api.InBin}, {Kind: api.InBin, Op: api.AndAnd}, {Kind: api.InUn, Op: api.Add, D: -9}, {Kind: api.InNum, D: math.MaxInt}}, Kind: 77}}},
	} {
		all(pick.Fn(f))
	}
	for _, v := range []api.Vfn{{}, {Code: []api.Vins{{}}}, {Name: "f", Regs: math.MaxInt, Code: []api.Vins{{Op: api.PRet, A: math.MaxInt}}}, {Name: "f", Params: math.MinInt, Regs: math.MinInt, Code: []api.Vins{{Op: math.MinInt, Num: math.MinInt32}}}} {
		all(v)
	}
}

func all(v api.Vfn) {
	pick.May(v)
	pick.Print(v)
	pick.Same(v, v)
}
