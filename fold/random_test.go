package fold_test

import (
	"slices"
	"testing"

	"brazier/api"
	"brazier/flow"
	"brazier/fold"
	"brazier/trace"
)

// P13.1, P13.3: random functions are known and folded as the chapter, said another way, lets them be.
func TestKnowsAndFoldRandom(t *testing.T) {
	m := newMaker(131)
	turned, left := 0, 0
	for range rounds(20000) {
		f := m.Fn()
		if got, want := shown(fold.Knows(f)), rows(f); got != want {
			t.Fatalf("%s; want %s\n%s", got, want, flow.Print(f))
		}
		got, want := fold.Fn(f), folded(f)
		if !flow.Same(got, want) || !flow.MayFn(got) {
			t.Fatalf("%s; want %s; was %s", flow.Print(got), flow.Print(want), flow.Print(f))
		}
		if !flow.Same(got, f) {
			turned++
		}
		if len(got.Blocks) > 1 {
			left++
		}
	}
	if turned < rounds(10000) || left < rounds(4000) {
		t.Error(turned, left)
	}
}

// P13.2, P13.6: likewise what can be come to; what is trimmed isn't turned by Trim.
func TestTrimRandom(t *testing.T) {
	m := newMaker(132)
	turned := 0
	for range rounds(40000) {
		f := m.Graph(9)
		var want []int
		for n, there := range reach(f) {
			if there {
				want = append(want, n)
			}
		}
		if got := fold.Reach(f); !slices.Equal(got, want) {
			t.Fatalf("%d; want %d\n%s", got, want, flow.Print(f))
		}
		got := fold.Trim(f)
		if !flow.Same(got, trim(f)) || !flow.MayFn(got) || !flow.Same(fold.Trim(got), got) {
			t.Fatalf("%s; was %s", flow.Print(got), flow.Print(f))
		}
		if len(got.Blocks) < len(f.Blocks) {
			turned++
		}
	}
	if turned < rounds(10000) {
		t.Error(turned)
	}
}

// P13.4, P13.6: what is folded, and what is trimmed, does the same, in as many steps, with any fuel.
func TestSameRuns(t *testing.T) {
	m := newMaker(134)
	found := map[int]int{}
	for range rounds(20000) {
		p, input := m.Mid(), m.Input()
		trimmed := api.Mid{Globals: p.Globals}
		for _, f := range p.Fns {
			trimmed.Fns = append(trimmed.Fns, fold.Trim(f))
		}
		folds := fold.Mid(p)
		for _, fuel := range []int{-1, m.Intn(20), m.Intn(100), 1000} {
			found[does(t, folds, p, input, fuel).End]++
			does(t, trimmed, p, input, fuel)
		}
	}
	for _, end := range []int{api.EndDone, api.EndDiv, api.EndIndex, api.EndDeep, api.EndOpen} {
		if found[end] < rounds(500) {
			t.Errorf("%d runs end with %d", found[end], end)
		}
	}
}

// P13.4: likewise of programs.
func TestSamePrograms(t *testing.T) {
	m := newMaker(135)
	less := 0
	for range rounds(4000) {
		p := flow.LowerAll(m.Prog())
		folds := fold.Mid(p)
		for range 2 {
			does(t, folds, p, m.Input(), one(m, m.Intn(100), 2000))
		}
		for i, f := range p.Fns {
			if len(folds.Fns[i].Blocks) < len(f.Blocks) {
				less++
			}
		}
	}
	if less < rounds(1000) {
		t.Error(less)
	}
}

// P13.5: what is known of a register is what it is whenever a run comes there; where nothing comes no run comes.
func TestKnownIsSo(t *testing.T) {
	m := newMaker(136)
	told := 0
	look := func(p api.Mid) {
		r := trace.Run(watched(p, fold.Knows), m.Input(), 3000)
		if slices.Contains(r.Trace, 0) {
			t.Fatalf("isn't so: %s", printed(p))
		}
		told += len(r.Trace)
	}
	for range rounds(10000) {
		look(m.Mid())
	}
	for range rounds(2000) {
		look(flow.LowerAll(m.Prog()))
	}
	if told < rounds(100000) {
		t.Error(told)
	}
}
