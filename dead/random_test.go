package dead_test

import (
	"slices"
	"testing"

	"brazier/api"
	"brazier/dead"
	"brazier/flow"
	"brazier/fold"
	"brazier/sample"
	"brazier/trace"
	"brazier/walk"
)

// P14.2, P14.3: random functions' registers live, and their instructions go, as the chapter, said another way, lets them; of what is left nothing more goes (P14.5).
func TestRandom(t *testing.T) {
	m := newMaker(141)
	turned, left := 0, 0
	for range rounds(20000) {
		f := m.Fn()
		in, out := dead.Live(f)
		wantIn, wantOut := ends(f)
		if shown(in) != shown(wantIn) || shown(out) != shown(wantOut) {
			t.Fatalf("%s | %s; want %s | %s\n%s", shown(in), shown(out), shown(wantIn), shown(wantOut), flow.Print(f))
		}
		got, want := dead.Fn(f), thinned(f)
		if !flow.Same(got, want) || !flow.MayFn(got) || !flow.Same(dead.Fn(got), got) {
			t.Fatalf("%s; want %s; was %s", flow.Print(got), flow.Print(want), flow.Print(f))
		}
		if !flow.Same(got, f) {
			turned++
		}
		for _, b := range got.Blocks {
			left += len(b.Ins)
		}
	}
	if turned < rounds(10000) || left < rounds(100000) {
		t.Error(turned, left)
	}
}

// P14.4: what is left ends as it did, with the same trace, in at most as many steps.
func TestSameRuns(t *testing.T) {
	m := newMaker(144)
	found := map[int]int{}
	for range rounds(20000) {
		p, input := m.Mid(), m.Input()
		less := dead.Mid(p)
		for _, fuel := range []int{-1, m.Intn(20), m.Intn(100), 1000} {
			found[does(t, less, p, input, fuel).End]++
		}
	}
	for _, end := range []int{api.EndDone, api.EndDiv, api.EndIndex, api.EndDeep, api.EndOpen} {
		if found[end] < rounds(500) {
			t.Errorf("%d runs end with %d", found[end], end)
		}
	}
}

// P14.4: likewise of programs, folded ones too.
func TestSamePrograms(t *testing.T) {
	m := newMaker(145)
	less := 0
	for range rounds(4000) {
		p := flow.LowerAll(m.Prog())
		for _, q := range []api.Mid{p, fold.Mid(p)} {
			thin, fuel := dead.Mid(q), 1+m.Intn(2000)
			input := m.Input()
			does(t, thin, p, input, fuel)
			if trace.Run(thin, input, fuel).Steps < trace.Run(p, input, fuel).Steps {
				less++
			}
		}
	}
	if less < rounds(2000) {
		t.Error(less)
	}
}

// P14.6: whatever the registers that aren't live hold, the rest of a run is the same.
func TestOthersDontCount(t *testing.T) {
	m := newMaker(146)
	put := 0
	for range rounds(10000) {
		p, input := m.Mid(), m.Input()
		other := sample.CopyMid(p)
		most := 1
		for i := range other.Fns {
			for n := range other.Fns[i].Blocks {
				count := m.disturb(&other.Fns[i], p.Fns[i], n)
				most = max(most, count+1)
				put += count
			}
		}
		r := trace.Run(p, input, 300)
		if got := trace.Run(other, input, 300*most); !walk.Begins(got, r) {
			t.Fatalf("with %d: %+v; want %+v\n%s; was %s", input, got, r, printed(other), printed(p))
		}
	}
	if put < rounds(200000) {
		t.Error(put)
	}
}

// disturb puts any numbers into the registers that aren't live at a block's beginning, and behind its instructions, by Live of the function as it was; it answers how many.
func (m *maker) disturb(f *api.Fn, was api.Fn, n int) int {
	in, out := dead.Live(was)
	b := &f.Blocks[n]
	live := out[n]
	if b.Kind != api.BlJump {
		live = append(live, b.A)
	}
	count := len(b.Ins)
	nums := func(live []int) []api.Ins {
		var l []api.Ins
		for r := range was.Regs {
			if !slices.Contains(live, r) {
				l = append(l, api.Ins{Kind: api.InNum, D: r, A: -1, B: -1, Num: int32(m.Intn(9) - 4)})
			}
		}
		return l
	}
	b.Ins = slices.Concat(nums(in[n]), b.Ins, nums(live))
	return len(b.Ins) - count
}
