package regs_test

import (
	"math"
	"reflect"
	"slices"
	"testing"

	"brazier/api"
	"brazier/regs"
	"brazier/sample"
)

// told is all that there is to tell of a function.
type told struct {
	live  [][]int
	spans []api.Span
	spots []api.Spot
	slots int
	lines []api.Line
	frame int
}

func all(v api.Vfn) told {
	var x told
	x.live, x.spans = regs.Live(v), regs.Spans(v)
	x.spots, x.slots = regs.Assign(v)
	x.lines, x.frame = regs.Fn(v)
	return x
}

func same(a, b told) bool {
	return shown(a.live) == shown(b.live) && slices.Equal(a.spans, b.spans) && slices.Equal(a.spots, b.spots) && a.slots == b.slots && slices.Equal(a.lines, b.lines) && a.frame == b.frame
}

// P16.5: the frame is Frame's, of Assign's.
func TestFrameOfFn(t *testing.T) {
	m := newMaker(169)
	for range rounds(1000) {
		x := all(m.Vfn(one(m, 2, 12, 30, 80)))
		if want := regs.Frame(x.spots, x.slots); x.frame != want {
			t.Fatalf("%d; want %d", x.frame, want)
		}
	}
}

// Rule 3: nil and empty lists are one.
func TestNilAndEmpty(t *testing.T) {
	v := vfn(t, "vfn f 1 3; call r1 f r0; call r2 k; bnez r1 0; label 0; ret r2")
	w := sample.CopyVfn(v)
	for i := range w.Code {
		if w.Code[i].Args == nil {
			w.Code[i].Args = []int{}
		}
	}
	if !same(all(v), all(w)) {
		t.Errorf("%+v; want %+v", all(w), all(v))
	}
	if regs.Frame([]api.Spot{}, 5) != regs.Frame(nil, 5) {
		t.Error("frames of no spots are one")
	}
}

// Rules 4 and 6: what is handed in stays as it is; answers are new memory, and hang on it alone.
func TestArgumentsStay(t *testing.T) {
	m := newMaker(4)
	for range rounds(1500) {
		v := sample.CopyVfn(m.Vfn(one(m, 2, 12, 30)))
		kept := sample.CopyVfn(v)
		x, want := all(v), all(v)
		spots := slices.Clone(x.spots)
		regs.Frame(spots, x.slots)
		if !slices.Equal(spots, x.spots) {
			t.Fatal("Frame turns the spots")
		}
		for _, l := range x.live {
			clear(l)
		}
		clear(x.live)
		clear(x.spans)
		clear(x.spots)
		clear(x.lines)
		if !reflect.DeepEqual(v, kept) {
			t.Fatalf("%+v; was %+v", v, kept)
		}
		if again := all(v); !same(again, want) {
			t.Fatalf("%+v; was %+v", again, want)
		}
	}
}

// Rule 4: spare room isn't used.
func TestSpareRoom(t *testing.T) {
	v := vfn(t, "vfn f 2 4; call r2 k r0 r1; ret r2; label 0; jump 0")
	w := sample.CopyVfn(v)
	w.Code[0].Args = w.Code[0].Args[:1]
	w.Code = w.Code[:2]
	all(w)
	spots := []api.Spot{{Kind: api.SpotReg, N: 3}, {Kind: api.SpotReg, N: 1}, {Kind: api.SpotReg, N: 2}}
	regs.Frame(spots[:2], 0)
	w.Code = w.Code[:4]
	w.Code[0].Args = w.Code[0].Args[:2]
	if !reflect.DeepEqual(v, w) || spots[2].N != 2 || spots[0].N != 3 {
		t.Errorf("%+v, %+v", w, spots)
	}
}

// Of functions that may not be nothing is promised, but each call ends, without a panic.
func TestAnyFunctions(t *testing.T) {
	m := newMaker(1)
	for range rounds(6000) {
		v := sample.CopyVfn(m.Vfn(one(m, 2, 12, 30)))
		for range 1 + m.Intn(4) {
			m.BendVfn(&v)
		}
		all(v)
	}
	ret := []api.Vins{{Op: api.PRet, D: -1, A: 0, B: -1}}
	for _, v := range []api.Vfn{
		{}, {Code: ret}, {Regs: -1, Code: ret}, {Regs: math.MaxInt, Code: ret}, {Regs: 1 << 40, Code: ret}, {Regs: math.MinInt, Code: ret}, {Params: math.MaxInt, Regs: 1, Code: ret}, {Params: math.MinInt, Regs: 1, Code: ret}, {Regs: 4096},
		{Regs: 1, Code: []api.Vins{{}}}, {Regs: 1, Code: []api.Vins{{Op: api.PLabel, Num: 7}}}, {Regs: 1, Code: []api.Vins{{Op: api.PJump, Num: 7}}}, {Regs: 1, Code: []api.Vins{{Op: api.PBnez, A: 70000}}}, {Regs: 1, Code: []api.Vins{{Op: api.PLi, D: math.MaxInt}}}, {Regs: 1, Code: []api.Vins{{Op: api.PLi, D: math.MinInt}}},
		{Regs: 1, Code: []api.Vins{{Op: math.MaxInt, D: 0, A: 0, B: 0}}}, {Regs: 1, Code: []api.Vins{{Op: api.PCall, D: -7, Args: []int{-1, 5, math.MaxInt, math.MinInt}}}},
	} {
		all(v)
	}
	for _, spots := range [][]api.Spot{nil, {{Kind: 7, N: math.MaxInt}, {Kind: api.SpotReg, N: math.MinInt}, {Kind: api.SpotReg, N: math.MaxInt}}} {
		for _, slots := range []int{0, -1, math.MaxInt, math.MinInt} {
			regs.Frame(spots, slots)
		}
	}
}
