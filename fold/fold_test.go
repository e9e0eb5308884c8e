package fold_test

import (
	"slices"
	"strings"
	"testing"

	"brazier/api"
	"brazier/flow"
	"brazier/fold"
	"brazier/sample"
	"brazier/word"
)

// The chapter's example.
func TestExample(t *testing.T) {
	becomes(t, fold.Fn, "fn main 0 3; block 0; r0 = num 2; r1 = num 3; r2 = r0 * r1; return r2", "fn main 0 3; block 0; r0 = num 2; r1 = num 3; r2 = num 6; return r2")
}

// P13.1: at the first block's beginning parameters vary, all others are the number 0.
func TestKnowsEntry(t *testing.T) {
	knows(t, "fn f 0 0; block 0; jump 0", "")
	knows(t, "fn f 0 2; block 0; return r0", "0 0")
	knows(t, "fn f 2 4; block 0; return r0", "? ? 0 0")
	knows(t, "fn f 8 8; block 0; return r0", "? ? ? ? ? ? ? ?")
	knows(t, "fn main 0 4096; block 0; return r4095", strings.TrimSuffix(strings.Repeat("0 ", 4096), " "))
}

// P13.1: what each kind of instruction turns, one by one.
func TestKnowsInstructions(t *testing.T) {
	behind(t, "r1 = num 7; r0 = num -2147483648", "-2147483648 7 0 0 0")
	behind(t, "r1 = num 7; r2 = r1; r3 = r0; r4 = r4", "? 7 7 ? 0")
	behind(t, "r1 = num 7; r2 = r1; r1 = num 8; r3 = r1; r1 = r0", "? ? 7 8 0")
	behind(t, "r1 = num 7; r1 = read", "? ? 0 0 0")
	behind(t, "r1 = g; r2 = num 1; r3 = a[r2]", "? ? 1 ? 0")
	behind(t, "r1 = num 7; r1 = f(r1); f(r1)", "? ? 0 0 0")
	behind(t, "r1 = num 7; print r1; g = r1; a[r2] = r1; f(r1)", "? 7 0 0 0")
	behind(t, "r1 = num 7; r2 = -r1; r3 = !r1; r4 = ~r1", "? 7 -7 0 -8")
	behind(t, "r1 = -r0; r2 = !r0; r3 = ~r0; r4 = !r4", "? ? ? ? 1")
	behind(t, "r1 = num 5; r1 = r1 + r1; r1 = r1 - r2; r1 = -r1", "? -10 0 0 0")
	behind(t, "r1 = r0 - r0; r2 = r0 ^ r0; r3 = r0 == r0; r4 = r0 < r0", "? ? ? ? ?")
	behind(t, "r0 = r0 * r1; r1 = num 1; r2 = r0 + r1", "0 1 1 0 0")
}

// P13.1: an InUn is a number of one, and varies of what does.
func TestKnowsUn(t *testing.T) {
	for _, a := range edges() {
		for op := api.Neg; op <= api.Inv; op++ {
			n, _ := word.Un(op, a)
			behind(t, "r1 = num "+word.Dec(a)+"; r2 = "+word.Sign(op)+"r1; r3 = "+word.Sign(op)+"r0", "? "+word.Dec(a)+" "+word.Dec(n)+" ? 0")
		}
	}
}

// P13.1: an InBin is a number of two, where that is true; 0 is what Mul and And are with one 0; else it varies.
func TestKnowsBin(t *testing.T) {
	for op := api.Add; op <= api.Ne; op++ {
		sign := word.Sign(op)
		for _, a := range edges() {
			num := "r1 = num " + word.Dec(a) + "; "
			lone := "?"
			if a == 0 && (op == api.Mul || op == api.And) {
				lone = "0"
			}
			behind(t, num+"r2 = r0 "+sign+" r1; r3 = r1 "+sign+" r0", "? "+word.Dec(a)+" "+lone+" "+lone+" 0")
			for _, b := range edges() {
				want := "?"
				if n, ok := word.Bin(op, a, b); ok {
					want = word.Dec(n)
				}
				behind(t, num+"r2 = num "+word.Dec(b)+"; r3 = r1 "+sign+" r2", "? "+word.Dec(a)+" "+word.Dec(b)+" "+want+" 0")
			}
		}
	}
}

// P13.1: what comes on to blocks.
func TestKnowsOn(t *testing.T) {
	knows(t, "fn f 0 2; block 0; r0 = num 5; branch r0 1 2; block 1; r1 = r0; return r1; block 2; return r1", "0 0; 5 0; - -")
	knows(t, "fn f 0 2; block 0; r0 = num -1; branch r0 1 2; block 1; return r1; block 2; return r1", "0 0; -1 0; - -")
	knows(t, "fn f 0 2; block 0; branch r0 1 2; block 1; return r1; block 2; jump 1", "0 0; 0 0; 0 0")
	knows(t, "fn f 0 2; block 0; branch r0 1 2; block 1; return r1; block 2; return r1", "0 0; - -; 0 0")
	knows(t, "fn f 1 2; block 0; r1 = num 3; branch r0 1 2; block 1; return r1; block 2; return r1", "? 0; ? 3; ? 3")
	knows(t, "fn f 1 2; block 0; r1 = num 3; branch r0 1 1; block 1; return r1", "? 0; ? 3")
	knows(t, "fn f 0 1; block 0; jump 2; block 1; jump 2; block 2; r0 = num 4; jump 3; block 3; return r0", "0; -; 0; 4")
	knows(t, "fn f 0 0; block 0; jump 2; block 1; jump 1; block 2; jump 0", "; ; ")
}

// P13.1: what comes from several blocks: the number, if all are that, else it varies. From where nothing comes, nothing does.
func TestKnowsSeveral(t *testing.T) {
	const fork = "fn f 1 4; block 0; branch r0 1 2; block 1; r1 = num 5; r2 = num 6; jump 3; block 2; r1 = num 5; r2 = num 7; r3 = read; jump 3; block 3; return r1"
	knows(t, fork, "? 0 0 0; ? 0 0 0; ? 0 0 0; ? 5 ? ?")
	knows(t, strings.Replace(fork, "branch r0", "r0 = num 1; branch r0", 1), "? 0 0 0; 1 0 0 0; - - - -; 1 5 6 0")
	knows(t, strings.Replace(fork, "branch r0", "branch r1", 1), "? 0 0 0; - - - -; ? 0 0 0; ? 5 7 ?")
	knows(t, "fn f 1 2; block 0; branch r0 1 2; block 1; r1 = num 1; jump 3; block 2; branch r0 4 3; block 3; return r1; block 4; r1 = num 0; jump 3", "? 0; ? 0; ? 0; ? ?; ? 0")
	knows(t, "fn f 1 2; block 0; branch r0 1 2; block 1; r0 = num 0; jump 3; block 2; r0 = num 0; jump 3; block 3; branch r0 4 5; block 4; return r0; block 5; return r0", "? 0; ? 0; ? 0; 0 0; - -; 0 0")
}

// P13.1: of all that goes together so it is the least: what a round lets be as it is stays known.
func TestKnowsRounds(t *testing.T) {
	knows(t, "fn f 0 1; block 0; jump 0", "0")
	knows(t, "fn f 0 2; block 0; r0 = num 1; jump 1; block 1; r1 = r1 + r0; branch r1 1 2; block 2; return r1", "0 0; 1 ?; 1 ?")
	knows(t, "fn f 1 2; block 0; r1 = num 1; branch r0 0 1; block 1; return r1", "? ?; ? 1")
	knows(t, "fn f 1 2; block 0; branch r0 0 1; block 1; return r1", "? 0; ? 0")
	knows(t, "fn f 1 2; block 0; r1 = num 1; jump 1; block 1; branch r0 2 3; block 2; r1 = r1 * r1; r0 = read; jump 1; block 3; return r1", "? 0; ? 1; ? 1; ? 1")
	knows(t, "fn f 0 2; block 0; jump 1; block 1; branch r0 2 3; block 2; r0 = num 1; jump 1; block 3; return r0", "0 0; 0 0; - -; 0 0")
	knows(t, "fn f 1 3; block 0; r1 = num 2; jump 1; block 1; r2 = num 2; r2 = r2 - r1; branch r2 2 3; block 2; r1 = num 9; jump 1; block 3; branch r0 1 4; block 4; return r1", "? 0 0; ? 2 0; - - -; ? 2 0; ? 2 0")
	knows(t, "fn f 1 3; block 0; r1 = num 2; jump 1; block 1; r2 = r1; branch r0 2 3; block 2; r1 = r2; jump 1; block 3; r1 = num 3; jump 1", "? 0 0; ? ? ?; ? ? ?; ? ? ?")
	knows(t, "fn f 1 4; block 0; jump 1; block 1; r1 = r2; r2 = r3; branch r0 1 2; block 2; r3 = num 1; jump 1", "? 0 0 0; ? ? ? ?; ? ? ? ?")
}

// P13.2: which blocks can be come to, and how they are numbered then.
func TestReachAndTrim(t *testing.T) {
	for text, want := range map[string]struct {
		reach []int
		trim  string
	}{
		"block 0; return r0":                  {[]int{0}, "block 0; return r0"},
		"block 0; jump 0; block 1; jump 0":    {[]int{0}, "block 0; jump 0"},
		"block 0; return r0; block 1; jump 1": {[]int{0}, "block 0; return r0"},
		"block 0; jump 2; block 1; r0 = num 1; jump 2; block 2; r0 = num 2; return r0":                                       {[]int{0, 2}, "block 0; jump 1; block 1; r0 = num 2; return r0"},
		"block 0; jump 3; block 1; jump 2; block 2; jump 1; block 3; branch r0 5 0; block 4; jump 5; block 5; branch r0 3 5": {[]int{0, 3, 5}, "block 0; jump 1; block 1; branch r0 2 0; block 2; branch r0 1 2"},
		"block 0; branch r0 2 1; block 1; r0 = num 1; return r0; block 2; r0 = num 2; jump 1":                                {[]int{0, 1, 2}, "block 0; branch r0 2 1; block 1; r0 = num 1; return r0; block 2; r0 = num 2; jump 1"},
		"block 0; branch r0 3 3; block 1; branch r0 2 3; block 2; jump 3; block 3; g = r0; r0 = f(r0); return r0":            {[]int{0, 3}, "block 0; branch r0 1 1; block 1; g = r0; r0 = f(r0); return r0"},
		"block 0; r0 = num 0; branch r0 1 2; block 1; jump 3; block 2; return r0; block 3; return r0; block 4; return r0":    {[]int{0, 1, 2, 3}, "block 0; r0 = num 0; branch r0 1 2; block 1; jump 3; block 2; return r0; block 3; return r0"},
	} {
		if got := fold.Reach(fn(t, "fn f 0 1; "+text)); !slices.Equal(got, want.reach) {
			t.Errorf("%s: %d", text, got)
		}
		becomes(t, fold.Trim, "fn f 0 1; "+text, "fn f 0 1; "+want.trim)
	}
	becomes(t, fold.Trim, "fn other 3 9; block 0; return r8; block 1; return r0", "fn other 3 9; block 0; return r8")
}

// P13.2: however many blocks there are.
func TestManyBlocks(t *testing.T) {
	const count = 70000
	f := api.Fn{Name: "f", Regs: 1}
	for n := range count {
		f.Blocks = append(f.Blocks, api.Block{Kind: api.BlBranch, To: (n + 2) % count, Else: (n + 2) % count})
	}
	if l := fold.Reach(f); len(l) != count/2 || l[len(l)-1] != count-2 {
		t.Error(len(l))
	}
	if g := fold.Trim(f); len(g.Blocks) != count/2 || g.Blocks[count/2-1].To != 0 || g.Blocks[5].Else != 6 {
		t.Error(len(g.Blocks))
	}
	if g := fold.Fn(f); len(g.Blocks) != count/2 || g.Blocks[5].Kind != api.BlJump {
		t.Error(len(g.Blocks))
	}
	if l := fold.Knows(f); len(l) != count || knownText(l[count-2][0]) != "0" || knownText(l[count-1][0]) != "-" {
		t.Error(len(l))
	}
}

// P13.3, 1: what is known behind an instruction is in its place, of copies and operators alone.
func TestFoldNumbers(t *testing.T) {
	folds(t, "r1 = num 7; r2 = r1; r3 = -r2; r3 = r3 - r1", "r1 = num 7; r2 = num 7; r3 = num -7; r3 = num -14")
	folds(t, "r3 = r0; r3 = r1; r3 = r3", "r3 = r0; r3 = num 0; r3 = num 0")
	folds(t, "r3 = r0 * r1; r3 = r1 & r0; r3 = r0 - r0; r3 = r0 % r0", "r3 = num 0; r3 = num 0; r3 = r0 - r0; r3 = r0 % r0")
	folds(t, "r3 = r1 / r2; r3 = r1 % r2; r1 = num 4; r3 = r1 / r2; r3 = r1 % r1", "r3 = r1 / r2; r3 = r1 % r2; r1 = num 4; r3 = r1 / r2; r3 = num 0")
	folds(t, "r1 = num 2; print r1; g = r1; a[r1] = r1; r3 = a[r1]; r3 = g; r3 = f(r1); f(r1); r3 = read; r3 = r1", "r1 = num 2; print r1; g = r1; a[r1] = r1; r3 = a[r1]; r3 = g; r3 = f(r1); f(r1); r3 = read; r3 = num 2")
	folds(t, "r0 = num 1; r0 = r0 + r0; r3 = r0 << r0", "r0 = num 1; r0 = num 2; r3 = num 8")
	folds(t, "r3 = -r0; r3 = !r0; r3 = ~r0; r3 = !r4", "r3 = -r0; r3 = !r0; r3 = ~r0; r3 = num 1")
}

// P13.3, 2: beside which number an operator is a copy of the other register, and beside which it is none; whichever register is turned.
func TestFoldCopies(t *testing.T) {
	multiples := []int32{0, 32, -32, 64, 65536, -2147483648, -2147483616, 2147483616}
	first := map[int][]int32{api.Add: {0}, api.Or: {0}, api.Xor: {0}, api.Mul: {1}, api.And: {-1}}
	second := map[int][]int32{api.Add: {0}, api.Sub: {0}, api.Or: {0}, api.Xor: {0}, api.Shl: multiples, api.Shr: multiples, api.Div: {1}, api.Mul: {1}, api.And: {-1}}
	for op := api.Add; op <= api.Ne; op++ {
		for _, n := range edges() {
			for _, d := range []string{"r3", "r0", "r1"} {
				num := "r1 = num " + word.Dec(n) + "; "
				made := func(ins string, copies []int32) string {
					switch {
					case n == 0 && (op == api.Mul || op == api.And):
						return num + d + " = num 0"
					case slices.Contains(copies, n):
						return num + d + " = r0"
					}
					return num + ins
				}
				as, bs := d+" = r1 "+word.Sign(op)+" r0", d+" = r0 "+word.Sign(op)+" r1"
				folds(t, num+as, made(as, first[op]))
				folds(t, num+bs, made(bs, second[op]))
			}
		}
	}
}

// P13.3, 3: a branch of which it is known where it goes, or that goes to one block, is a jump; then Trim.
func TestFoldEnds(t *testing.T) {
	const end = " block 1; r0 = num 1; return r0; block 2; r0 = num 2; return r0"
	becomes(t, fold.Fn, "fn f 0 2; block 0; r0 = num 5; branch r0 1 2;"+end, "fn f 0 2; block 0; r0 = num 5; jump 1; block 1; r0 = num 1; return r0")
	becomes(t, fold.Fn, "fn f 0 2; block 0; r0 = num -2147483648; branch r0 1 2;"+end, "fn f 0 2; block 0; r0 = num -2147483648; jump 1; block 1; r0 = num 1; return r0")
	becomes(t, fold.Fn, "fn f 0 2; block 0; branch r0 1 2;"+end, "fn f 0 2; block 0; jump 1; block 1; r0 = num 2; return r0")
	becomes(t, fold.Fn, "fn f 1 2; block 0; branch r0 1 2;"+end, "fn f 1 2; block 0; branch r0 1 2;"+end)
	becomes(t, fold.Fn, "fn f 1 2; block 0; branch r0 2 2;"+end, "fn f 1 2; block 0; jump 1; block 1; r0 = num 2; return r0")
	becomes(t, fold.Fn, "fn f 1 2; block 0; r1 = num 1; branch r1 2 2;"+end, "fn f 1 2; block 0; r1 = num 1; jump 1; block 1; r0 = num 2; return r0")
	becomes(t, fold.Fn, "fn f 1 3; block 0; jump 1; block 1; branch r1 2 3; block 2; r1 = num 1; r2 = r0 + r1; jump 1; block 3; branch r0 1 4; block 4; r2 = r1 + r0; return r2", "fn f 1 3; block 0; jump 1; block 1; jump 2; block 2; branch r0 1 3; block 3; r2 = r0; return r2")
	becomes(t, fold.Fn, "fn f 0 1; block 0; branch r0 0 0; block 1; jump 0", "fn f 0 1; block 0; jump 0")
	becomes(t, fold.Fn, "fn f 0 0; block 0; jump 1; block 1; jump 0", "fn f 0 0; block 0; jump 1; block 1; jump 0")
	becomes(t, fold.Fn, "fn f 2 3; block 0; branch r0 1 2; block 1; r2 = num 1; jump 3; block 2; r2 = num 1; jump 3; block 3; r2 = r1 * r2; return r2", "fn f 2 3; block 0; branch r0 1 2; block 1; r2 = num 1; jump 3; block 2; r2 = num 1; jump 3; block 3; r2 = r1; return r2")
}

// P13.3: a program's globals are as they were, its functions are folded in their order.
func TestMid(t *testing.T) {
	m := sample.Mid("fn f 1 1; block 0; r0 = r0; return r0; fn main 0 2; block 0; r1 = f(r0); r0 = !r0; branch r0 1 2; block 1; return r1; block 2; return r0; fn k 0 1; block 0; r0 = !r0; return r0")
	got := fold.Mid(m)
	if !slices.Equal(got.Globals, m.Globals) || len(got.Fns) != 3 {
		t.Fatalf("%+v", got)
	}
	for i, f := range m.Fns {
		if !flow.Same(got.Fns[i], fold.Fn(f)) {
			t.Errorf("%s", flow.Print(got.Fns[i]))
		}
	}
	if want := sample.Mid("fn f 1 1; block 0; r0 = r0; return r0; fn main 0 2; block 0; r1 = f(r0); r0 = num 1; jump 1; block 1; return r1; fn k 0 1; block 0; r0 = num 1; return r0"); !flow.SameMid(got, want) {
		t.Error(printed(got))
	}
	if got := fold.Mid(api.Mid{}); len(got.Globals) != 0 || len(got.Fns) != 0 {
		t.Errorf("%+v", got)
	}
}
