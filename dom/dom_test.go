package dom_test

import (
	"math"
	"slices"
	"testing"

	"brazier/api"
	"brazier/dom"
	"brazier/flow"
	"brazier/sample"
	"brazier/syntax"
)

// The chapter's example.
func TestExample(t *testing.T) {
	tells(t, "1; 2 3; 1; .", "0 1 3 2", "; 0 2; 1; 1", "-1 0 1 1", "1: 1 2", "0 1 1 0", true)
}

// P26.1 to P26.3: one block, with a way back to itself or without.
func TestOneBlock(t *testing.T) {
	tells(t, ".", "0", "", "-1", "", "0", true)
	tells(t, "0", "0", "0", "-1", "0: 0", "1", true)
	tells(t, "0 0", "0", "0", "-1", "0: 0", "1", true)
}

// P26.1: the order goes by To ahead of Else; each of Preds is there once.
func TestOrder(t *testing.T) {
	tells(t, "1 2; .; .", "0 2 1", "; 0; 0", "-1 0 0", "", "0 0 0", true)
	tells(t, "2 1; .; .", "0 1 2", "; 0; 0", "-1 0 0", "", "0 0 0", true)
	tells(t, "1 2; 3; 3; .", "0 2 1 3", "; 0; 0; 1 2", "-1 0 0 0", "", "0 0 0 0", true)
	tells(t, "1 3; 2; 3; .", "0 1 2 3", "; 0; 1; 0 2", "-1 0 1 0", "", "0 0 0 0", true)
	tells(t, "3 1; 2; 3; .", "0 1 2 3", "; 0; 1; 0 2", "-1 0 1 0", "", "0 0 0 0", true)
	tells(t, "3 3; .; 1; 2 2", "0 3 2 1", "; 2; 3; 0", "-1 2 3 0", "", "0 0 0 0", true)
	tells(t, "1 2; 3 4; 4 3; 5; 5; .", "0 2 1 4 3 5", "; 0; 0; 1 2; 1 2; 3 4", "-1 0 0 0 0 0", "", "0 0 0 0 0 0", true)
	tells(t, "4 1; 2; 3 0; .; 1 3", "0 4 1 2 3", "2; 0 4; 1; 2 4; 0", "-1 0 1 0 0", "0: 0 1 2 4", "1 1 1 0 1", true)
}

// Blocks that can't be come to are in nothing that is told, whatever they go on to.
func TestNotComeTo(t *testing.T) {
	tells(t, "2; 2 1; .", "0 2", "; ; 0", "-1 -1 0", "", "0 0 0", true)
	tells(t, "1; 2 4; 1; 2 1; .", "0 1 4 2", "; 0 2; 1; ; 1", "-1 0 1 -1 1", "1: 1 2", "0 1 1 0 0", true)
	tells(t, "0; 2; 1 3; 2 0", "0", "0; ; ; ", "-1 -1 -1 -1", "0: 0", "1 0 0 0", true)
	f := graph(t, "2; 2; .")
	for a := -2; a < 5; a++ {
		for b := -2; b < 5; b++ {
			want := a == 0 && b == 0 || a == 0 && b == 2 || a == 2 && b == 2
			if dom.Dominates(f, a, b) != want {
				t.Errorf("%d, %d isn't %t", a, b, want)
			}
		}
	}
	for _, n := range []int{math.MinInt, math.MaxInt} {
		if dom.Dominates(f, n, 0) || dom.Dominates(f, 0, n) || dom.Dominates(f, n, n) {
			t.Error(n)
		}
	}
}

// P26.2: what dominates what.
func TestDominates(t *testing.T) {
	tells(t, "1 2; 3; 3 4; 5; 5; 6; .", "0 2 4 1 3 5 6", "; 0; 0; 1 2; 2; 3 4; 5", "-1 0 0 0 2 0 5", "", "0 0 0 0 0 0 0", true)
	f := graph(t, "1; 2 3; 4; 4; 5 1; .")
	for a, want := range [][]int{{0, 1, 2, 3, 4, 5}, {1, 2, 3, 4, 5}, {2}, {3}, {4, 5}, {5}} {
		var got []int
		for b := range f.Blocks {
			if dom.Dominates(f, a, b) {
				got = append(got, b)
			}
		}
		if !slices.Equal(got, want) {
			t.Errorf("%d: %d; want %d", a, got, want)
		}
	}
	tells(t, "1 2; 2 3; 1 4; .; .", "0 1 3 2 4", "; 0 2; 0 1; 1; 2", "-1 0 0 1 2", "", "0 0 0 0 0", false)
	tells(t, "1 4; 2 3; 1; 3 5; 2 3; .", "0 4 1 3 5 2", "; 0 2; 1 4; 1 3 4; 0; 3", "-1 0 0 0 0 3", "3: 3", "0 0 0 1 0 0", false)
}

// P26.3: loops: within one another, beside each other, of several ways back, of the first block.
func TestLoops(t *testing.T) {
	tells(t, "1; 2 5; 3 4; 2; 1; .", "0 1 5 2 4 3", "; 0 4; 1 3; 2; 2; 1", "-1 0 1 2 2 1", "1: 1 2 3 4; 2: 2 3", "0 1 2 2 1 0", true)
	tells(t, "1; 2 3; 1; 4 5; 3; .", "0 1 3 5 4 2", "; 0 2; 1; 1 4; 3; 3", "-1 0 1 1 3 3", "1: 1 2; 3: 3 4", "0 1 1 1 1 0", true)
	tells(t, "1; 2 5; 3 4; 1; 1; .", "0 1 5 2 4 3", "; 0 3 4; 1; 2; 2; 1", "-1 0 1 2 2 1", "1: 1 2 3 4", "0 1 1 1 1 0", true)
	tells(t, "1 2; 0; .", "0 2 1", "1; 0; 0", "-1 0 0", "0: 0 1", "1 1 0", true)
	tells(t, "1; 1 2; 2 0", "0 1 2", "2; 0 1; 1 2", "-1 0 1", "0: 0 1 2; 1: 1; 2: 2", "1 2 2", true)
	tells(t, "1; 2 3; 3; 1 4; .", "0 1 2 3 4", "; 0 3; 1; 1 2; 3", "-1 0 1 1 3", "1: 1 2 3", "0 1 1 1 0", true)
	tells(t, "3; 3 2; .; 1", "0 3 1 2", "; 3; 1; 0 1", "-1 3 1 0", "3: 1 3", "0 1 0 1", true)
	tells(t, "1; 2 4; 3; 2 1; .", "0 1 4 2 3", "; 0 3; 1 3; 2; 1", "-1 0 1 2 1", "1: 1 2 3; 2: 2 3", "0 1 2 2 0", true)
}

// P26.3: a round that is come into by two blocks is no loop, and can't be taken apart; in a loop of another one's.
func TestReducible(t *testing.T) {
	tells(t, "1 2; 2; 1", "0 1 2", "; 0 2; 0 1", "-1 0 0", "", "0 0 0", false)
	tells(t, "1 2; 2 0; 1", "0 1 2", "1; 0 2; 0 1", "-1 0 0", "0: 0 1 2", "1 1 1", false)
	tells(t, "1 2; 3; 3; 1 4; .", "0 2 1 3 4", "; 0 3; 0; 1 2; 3", "-1 0 0 0 3", "", "0 0 0 0 0", false)
	tells(t, "1 2; 1 3; 3; .", "0 2 1 3", "; 0 1; 0; 1 2", "-1 0 0 0", "1: 1", "0 1 0 0", true)
	tells(t, "3; 2; 1; .", "0 3", "; ; ; 0", "-1 -1 -1 0", "", "0 0 0 0", true)
}

// All functions of up to three blocks.
func TestAllSmall(t *testing.T) {
	for count := 1; count <= 3; count++ {
		ends := []api.Block{{Kind: api.BlReturn}}
		for to := range count {
			ends = append(ends, api.Block{Kind: api.BlJump, To: to})
			for other := range count {
				ends = append(ends, api.Block{Kind: api.BlBranch, To: to, Else: other})
			}
		}
		all := 1
		for range count {
			all *= len(ends)
		}
		for n := range all {
			f := api.Fn{Name: "f", Regs: 1}
			for range count {
				f.Blocks = append(f.Blocks, ends[n%len(ends)])
				n /= len(ends)
			}
			as(t, f)
		}
	}
}

// P26.1 to P26.5: random functions.
func TestRandom(t *testing.T) {
	m := newMaker(261)
	found := map[string]int{}
	count := func(what string, is bool) {
		if is {
			found[what]++
		}
	}
	for range rounds(20000) {
		f := m.Graph(1 + m.Intn(12))
		x := as(t, f)
		follows(t, f, x)
		count("reducible", x.Reducible)
		count("not reducible", !x.Reducible)
		count("two loops", len(x.Loops) > 1)
		count("within", len(x.Depth) > 0 && slices.Max(x.Depth) > 1)
		count("not come to", len(x.Order) < len(f.Blocks))
		count("many", len(x.Order) > 5)
	}
	for _, what := range []string{"reducible", "not reducible", "two loops", "within", "not come to", "many"} {
		if found[what] < rounds(1000) {
			t.Errorf("%d of %s", found[what], what)
		}
	}
}

// follows tells P26.4 and P26.5 of what is told.
func follows(t *testing.T, f api.Fn, x told) {
	t.Helper()
	for _, b := range x.Order {
		ups := []int{b}
		for up := x.Idom[b]; up >= 0; up = x.Idom[up] {
			ups = append(ups, up)
		}
		for a := range f.Blocks {
			if x.Dominates[a][b] != slices.Contains(ups, a) {
				t.Fatalf("%d, %d\n%s", a, b, flow.Print(f))
			}
		}
		if b != 0 && slices.Index(x.Order, x.Idom[b]) >= slices.Index(x.Order, b) {
			t.Fatalf("%d in %d\n%s", b, x.Order, flow.Print(f))
		}
	}
	if x.Order[0] != 0 {
		t.Fatalf("%d\n%s", x.Order, flow.Print(f))
	}
	for b, preds := range x.Preds {
		for _, a := range preds {
			if x.Reducible && !x.Dominates[b][a] && slices.Index(x.Order, a) >= slices.Index(x.Order, b) {
				t.Fatalf("%d to %d in %d\n%s", a, b, x.Order, flow.Print(f))
			}
		}
	}
}

// P26.6: what layer 11 makes of a program is Reducible.
func TestLowered(t *testing.T) {
	m := newMaker(266)
	loops := 0
	for range rounds(5000) {
		for _, f := range flow.LowerAll(m.Prog()).Fns {
			if !dom.Reducible(f) {
				t.Fatal(flow.Print(f))
			}
			loops += len(dom.Loops(f))
			if len(f.Blocks) < 20 {
				follows(t, f, as(t, f))
			}
		}
	}
	if loops < rounds(2000) {
		t.Error(loops)
	}
	p, _, _ := syntax.Parse("int g; int main() { while (g && (g < 3 || !g)) { while (1) { if (g) break; if (g == 2) continue; g = g || 1; while (g) { if (g > 5) return g; } } } return 0; }")
	for _, f := range flow.LowerAll(p).Fns {
		if !dom.Reducible(f) || len(dom.Loops(f)) != 3 {
			t.Error(flow.Print(f))
		}
		follows(t, f, as(t, f))
	}
}

// Blocks with instructions, whose ends ask any register, lie as those without.
func TestInstructionsDontCount(t *testing.T) {
	m := newMaker(7)
	for range rounds(2000) {
		f := m.Fn()
		bare := sample.CopyFn(f)
		for i := range bare.Blocks {
			bare.Blocks[i].Ins, bare.Blocks[i].A = nil, 0
		}
		if got, want := lists([][]int{dom.Order(f), dom.Idom(f), dom.Depth(f)}), lists([][]int{dom.Order(bare), dom.Idom(bare), dom.Depth(bare)}); got != want {
			t.Fatalf("%s; want %s\n%s", got, want, flow.Print(f))
		}
		as(t, f)
	}
}

// However many blocks there are: no call is within another for each, and no set is too small.
func TestManyBlocks(t *testing.T) {
	const count = 70000
	f := api.Fn{Name: "f", Regs: 1}
	for n := range count {
		b := api.Block{Kind: api.BlBranch, To: (n + 1) % count, Else: n}
		if n < count/2 {
			b.Else = b.To
		}
		f.Blocks = append(f.Blocks, b)
	}
	order, idom, preds, depth := dom.Order(f), dom.Idom(f), dom.Preds(f), dom.Depth(f)
	if len(order) != count || order[count-1] != count-1 || idom[count-1] != count-2 || !slices.Equal(preds[count-1], []int{count - 2, count - 1}) {
		t.Error(len(order))
	}
	if depth[0] != 1 || depth[count/2] != 2 || depth[count-1] != 2 || !dom.Reducible(f) || !dom.Dominates(f, 1, count-1) || dom.Dominates(f, count-1, 1) {
		t.Error(depth[0], depth[count/2], depth[count-1])
	}
	if loops := dom.Loops(f); len(loops) != count/2+1 || len(loops[0].Blocks) != count || loops[count/2].Head != count-1 {
		t.Error(len(loops))
	}
}
