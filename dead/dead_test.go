package dead_test

import (
	"math"
	"slices"
	"strings"
	"testing"

	"brazier/api"
	"brazier/dead"
	"brazier/flow"
	"brazier/sample"
	"brazier/word"
)

// The chapter's example.
func TestExample(t *testing.T) {
	const text = "fn f 0 3; block 0; r0 = num 1; r1 = num 2; r2 = r1 / r0; return r1"
	becomes(t, text, text)
	becomes(t, strings.Replace(text, "/", "+", 1), "fn f 0 3; block 0; r1 = num 2; return r1")
}

// P14.1: what an instruction asks, rising, each once.
func TestUses(t *testing.T) {
	for text, want := range map[string][]int{
		"r9 = num 5": nil, "r9 = r3": {3}, "r9 = -r0": {0}, "r9 = r4 + r2": {2, 4}, "r9 = r4 - r4": {4}, "r2 = r2 / r9": {2, 9},
		"r9 = g": nil, "r9 = a[r7]": {7}, "g = r7": {7}, "a[r7] = r3": {3, 7}, "a[r7] = r7": {7},
		"r9 = f()": nil, "f()": nil, "r9 = f(r3)": {3}, "f(r5, r0, r5, r1)": {0, 1, 5}, "r1 = f(r7, r6, r5, r4, r3, r2, r1, r0)": {0, 1, 2, 3, 4, 5, 6, 7},
		"r9 = read": nil, "print r9": {9}, "print r4095": {4095},
	} {
		x := fn(t, "fn f 0 4096; block 0; "+text+"; return r0").Blocks[0].Ins[0]
		if got := dead.Uses(x); !slices.Equal(got, want) {
			t.Errorf("%s: %d", text, got)
		}
	}
}

// P14.1: Uses is promised of any instruction: the registers that are there are those from 0 to 65535.
func TestUsesAny(t *testing.T) {
	for _, c := range []struct {
		x    api.Ins
		want []int
	}{
		{api.Ins{}, []int{0}},
		{api.Ins{Kind: -5, D: 7, A: 3, B: 2}, []int{2, 3}},
		{api.Ins{Kind: api.InNum, D: 7, A: 3, B: -2, Args: []int{9, 1}}, []int{1, 3, 9}},
		{api.Ins{Kind: api.InBin, A: -1, B: math.MinInt, Args: []int{-1, 65535, 0, -9, 65535}}, []int{0, 65535}},
		{api.Ins{Kind: api.InCall, A: 65536, B: math.MaxInt, Args: []int{1 << 40, 65535}}, []int{65535}},
		{api.Ins{Kind: api.InPrint, D: 4, A: 65535, B: 64}, []int{64, 65535}},
	} {
		if got := dead.Uses(c.x); !slices.Equal(got, c.want) {
			t.Errorf("%+v: %d", c.x, got)
		}
	}
}

// P14.1: what does nothing but turn its D, whatever the registers are.
func TestPure(t *testing.T) {
	pure := func(x api.Ins, want bool) {
		t.Helper()
		for _, r := range [][3]int{{0, 0, 0}, {1, 2, 3}, {-1, 5, 5}, {65535, 1, -1}} {
			x.D, x.B = r[0], r[2]
			if x.Kind != api.InLoad {
				x.A = r[1]
			}
			if dead.Pure(x) != want {
				t.Errorf("%+v isn't %t", x, want)
			}
		}
	}
	pure(api.Ins{Kind: api.InNum, Num: 3}, true)
	pure(api.Ins{Kind: api.InCopy}, true)
	for op := api.Neg; op <= api.Inv; op++ {
		pure(api.Ins{Kind: api.InUn, Op: op}, true)
	}
	for op := api.Add; op <= api.Ne; op++ {
		pure(api.Ins{Kind: api.InBin, Op: op}, op != api.Div && op != api.Rem)
	}
	pure(api.Ins{Kind: api.InLoad, A: -1, Name: "g"}, true)
	pure(api.Ins{Kind: api.InLoad, A: math.MinInt, Name: "g"}, true)
	pure(api.Ins{Kind: api.InLoad, A: 0, Name: "a"}, false)
	pure(api.Ins{Kind: api.InLoad, A: 5, Name: "a"}, false)
	for _, kind := range []int{api.InStore, api.InCall, api.InRead, api.InPrint, 0, -1, 10, math.MaxInt} {
		pure(api.Ins{Kind: kind}, false)
		pure(api.Ins{Kind: kind, Op: api.Add, Name: "g"}, false)
	}
}

// P14.2: in one block: from its end to the front.
func TestLiveInBlock(t *testing.T) {
	for ins, want := range map[string]string{
		"": "5", "r5 = num 1; ": "", "r5 = r1; ": "1", "r5 = r5 + r0; ": "0 5", "r5 = r1 + r2; r1 = num 3; ": "1 2", "r1 = num 3; r5 = r1 + r2; ": "2", "r1 = r1; ": "1 5",
		"r1 = r2; ": "2 5", "r1 = num 1; r1 = num 2; ": "5", "print r0; print r3; ": "0 3 5", "g = r2; a[r1] = r0; ": "0 1 2 5", "r5 = a[r5]; ": "5", "r5 = g; ": "", "r5 = read; ": "",
		"r5 = f(r1, r3, r1); ": "1 3", "f(r1, r5); ": "1 5", "f(); ": "5", "r3 = f(r3); ": "3 5", "r5 = -r4; r4 = r5; r5 = r4; ": "4",
	} {
		lives(t, "fn f 2 6; block 0; "+ins+"return r5", want, "")
	}
}

// P14.2: from block to block; out is told without what the end asks.
func TestLiveOn(t *testing.T) {
	lives(t, "fn f 0 0; block 0; jump 0", "", "")
	lives(t, "fn f 0 1; block 0; jump 0", "", "")
	lives(t, "fn f 2 3; block 0; jump 1; block 1; return r1", "1; 1", "1; ")
	lives(t, "fn f 2 3; block 0; branch r0 1 2; block 1; return r1; block 2; return r2", "0 1 2; 1; 2", "1 2; ; ")
	lives(t, "fn f 2 3; block 0; branch r0 1 1; block 1; return r0", "0; 0", "0; ")
	lives(t, "fn f 2 3; block 0; r0 = num 1; branch r0 1 2; block 1; r1 = num 1; return r1; block 2; return r1", "1; ; 1", "1; ; ")
	lives(t, "fn f 1 3; block 0; r1 = num 0; jump 1; block 1; branch r0 2 3; block 2; r1 = r1 + r2; jump 1; block 3; return r1", "0 2; 0 1 2; 0 1 2; 1", "0 1 2; 0 1 2; 0 1 2; ")
	lives(t, "fn f 1 3; block 0; jump 1; block 1; r1 = r1 + r2; branch r0 1 2; block 2; return r0", "0 1 2; 0 1 2; 0", "0 1 2; 0 1 2; ")
	lives(t, "fn f 1 3; block 0; r1 = num 1; print r1; branch r0 0 1; block 1; return r2; block 2; print r1; jump 1", "0 2; 2; 1 2", "0 2; ; 2")
	lives(t, "fn f 0 3; block 0; jump 2; block 1; r0 = num 1; jump 1; block 2; jump 3; block 3; return r2", "2; ; 2; 2", "2; ; 2; ")
	lives(t, "fn main 0 4096; block 0; print r4095; branch r64 1 1; block 1; return r63", "63 64 4095; 63", "63; ")
}

// P14.3: what is pure, and whose D nobody asks for, goes, with what was asked for it alone; what isn't pure stays.
func TestGoes(t *testing.T) {
	leaves(t, "r2 = num 1; r3 = r2; r4 = -r3; r2 = r4 * r4; r3 = g; r5 = num 2", "r5 = num 2")
	leaves(t, "r5 = num 1; r5 = num 2", "r5 = num 2")
	leaves(t, "r5 = num 1; r5 = r5 + r5; r5 = r0", "r5 = r0")
	leaves(t, "r5 = num 1; r5 = r5 + r5", "r5 = num 1; r5 = r5 + r5")
	leaves(t, "r2 = r0 / r1; r3 = r0 % r1; r4 = r2 - r3", "r2 = r0 / r1; r3 = r0 % r1")
	leaves(t, "r2 = num 1; r3 = num 0; r4 = r2 % r3", "r2 = num 1; r3 = num 0; r4 = r2 % r3")
	leaves(t, "r2 = num 1; r3 = a[r2]; r3 = read; r2 = num 7; print r2; r2 = num 8; g = r2; r2 = num 0; a[r2] = r0", "r2 = num 1; r3 = a[r2]; r3 = read; r2 = num 7; print r2; r2 = num 8; g = r2; r2 = num 0; a[r2] = r0")
	leaves(t, "r2 = num 1; r2 = num 2; print r2; r2 = num 3", "r2 = num 2; print r2")
	for op := api.Add; op <= api.Ne; op++ {
		if op != api.Div && op != api.Rem {
			leaves(t, "r2 = num 4; r3 = r2 "+word.Sign(op)+" r0; r5 = num 1", "r5 = num 1")
		}
	}
}

// P14.3: a copy of its own D goes, if that is asked for, too.
func TestOwnCopy(t *testing.T) {
	leaves(t, "r5 = r5", "")
	leaves(t, "r5 = num 1; r5 = r5; r4 = r4; print r5", "r5 = num 1; print r5")
	leaves(t, "r5 = num 1; r4 = r5; r5 = r4", "r5 = num 1; r4 = r5; r5 = r4")
	leaves(t, "r4 = num 1; r4 = r4; r5 = r1", "r5 = r1")
	leaves(t, "r5 = r5 + r5; r5 = -r5", "r5 = r5 + r5; r5 = -r5")
}

// P14.3: a call stays, whose D nobody asks for; it has none then.
func TestCalls(t *testing.T) {
	leaves(t, "r2 = f(r0)", "f(r0)")
	leaves(t, "r5 = f(r0); r5 = f(r5, r1)", "r5 = f(r0); r5 = f(r5, r1)")
	leaves(t, "r5 = f(); r5 = num 1", "f(); r5 = num 1")
	leaves(t, "r2 = num 1; r3 = f(r2); r4 = r3; f(r0)", "r2 = num 1; f(r2); f(r0)")
	leaves(t, "r5 = f(r5); r5 = f(r5); r5 = num 3", "r5 = f(r5); f(r5); r5 = num 3")
}

// P14.3: again and again, from block to block.
func TestAgainAndAgain(t *testing.T) {
	becomes(t, "fn f 1 5; block 0; r1 = num 1; jump 1; block 1; r2 = r1; jump 2; block 2; r3 = r2; jump 3; block 3; r4 = r3; return r0", "fn f 1 5; block 0; jump 1; block 1; jump 2; block 2; jump 3; block 3; return r0")
	becomes(t, "fn f 1 5; block 0; r1 = num 1; branch r0 1 2; block 1; r2 = r1; jump 0; block 2; r3 = r2; r1 = r3; return r0", "fn f 1 5; block 0; branch r0 1 2; block 1; jump 0; block 2; return r0")
	becomes(t, "fn f 1 3; block 0; r1 = num 1; jump 1; block 1; r1 = r1 + r0; branch r0 1 2; block 2; return r0", "fn f 1 3; block 0; r1 = num 1; jump 1; block 1; r1 = r1 + r0; branch r0 1 2; block 2; return r0")
	becomes(t, "fn f 1 3; block 0; r1 = num 1; branch r0 1 2; block 1; return r1; block 2; r1 = num 2; return r0", "fn f 1 3; block 0; r1 = num 1; branch r0 1 2; block 1; return r1; block 2; return r0")
	becomes(t, "fn f 1 3; block 0; r1 = num 1; branch r1 1 1; block 1; r1 = num 2; return r0; block 2; r0 = num 1; r1 = f(r0); jump 2", "fn f 1 3; block 0; r1 = num 1; branch r1 1 1; block 1; return r0; block 2; r0 = num 1; f(r0); jump 2")
	becomes(t, "fn f 2 4; block 0; r2 = f(r1); jump 1; block 1; r3 = r2; r2 = r3; branch r0 0 2; block 2; return r0", "fn f 2 4; block 0; f(r1); jump 1; block 1; branch r0 0 2; block 2; return r0")
}

// P14.3: a program's globals are as they were, its functions are thinned in their order.
func TestMid(t *testing.T) {
	m := sample.Mid("fn f 1 2; block 0; r1 = r0; return r0; fn main 0 2; block 0; r1 = f(r0); return r0; fn k 0 1; block 0; r0 = r0; return r0")
	got := dead.Mid(m)
	if want := sample.Mid("fn f 1 2; block 0; return r0; fn main 0 2; block 0; f(r0); return r0; fn k 0 1; block 0; return r0"); !flow.SameMid(got, want) {
		t.Error(printed(got))
	}
	if got := dead.Mid(api.Mid{}); len(got.Globals) != 0 || len(got.Fns) != 0 {
		t.Errorf("%+v", got)
	}
}

// P14.2, P14.3: however many blocks there are, and however they lie.
func TestManyBlocks(t *testing.T) {
	const count = 70000
	f := api.Fn{Name: "f", Params: 1, Regs: 2}
	for n := range count {
		ins := []api.Ins{{Kind: api.InCopy, D: 1, A: 0, B: -1}}
		f.Blocks = append(f.Blocks, api.Block{Ins: ins, Kind: api.BlJump, To: max(n-1, 0)})
	}
	f.Blocks[0] = api.Block{Kind: api.BlReturn, A: 1}
	in, out := dead.Live(f)
	if len(in) != count || len(out) != count || !slices.Equal(in[count-1], []int{0}) || !slices.Equal(in[0], []int{1}) || !slices.Equal(out[count-1], []int{0}) || !slices.Equal(out[1], []int{1}) || len(out[0]) != 0 {
		t.Error(len(in), len(out))
	}
	if g := dead.Fn(f); len(g.Blocks) != count || len(g.Blocks[1].Ins) != 1 || len(g.Blocks[count-1].Ins) != 0 {
		t.Error(len(g.Blocks))
	}
}
