package pick_test

import (
	"testing"

	"brazier/api"
	"brazier/dead"
	"brazier/flow"
	"brazier/fold"
	"brazier/pick"
	"brazier/trace"
	"brazier/walk"
)

// P15.3, P15.5: of random functions that is picked which the chapter, said another way, picks; it may be.
func TestRandom(t *testing.T) {
	m := newMaker(151)
	found := map[int]int{}
	for range rounds(10000) {
		f := one(m, m.mid().Fns...)
		got, want := pick.Fn(f), rewritten(f)
		if !pick.Same(got, want) || !pick.May(got) {
			t.Fatalf("%s; want %s; was %s", pick.Print(got), pick.Print(want), flow.Print(f))
		}
		for _, x := range got.Code {
			found[x.Op]++
		}
	}
	for op := api.Addi; op <= api.PBeqz; op++ {
		never := op == api.Srli || op == api.Srls || op > api.Rems && op < api.PLi
		if never != (found[op] == 0) {
			t.Errorf("%d of %d", found[op], op)
		}
	}
}

// does tells that what is picked ends as the blocks do, with the same trace, in at most twice as many steps; it answers how these end.
func does(t *testing.T, m api.Mid, input []int32, fuel int) api.Result {
	t.Helper()
	r := trace.Run(m, input, fuel)
	p := picked(m)
	for _, v := range p.Fns {
		if !pick.May(v) {
			t.Fatalf("%s may not be", pick.Print(v))
		}
	}
	own := p.Run(input, 2*r.Steps)
	if !walk.Begins(own, r) || own.Reads < r.Reads {
		t.Fatalf("with %d, %d: %+v; want %+v", input, fuel, own, r)
	}
	return r
}

// P15.5: what is picked of random blocks.
func TestSameRuns(t *testing.T) {
	m := newMaker(155)
	found := map[int]int{}
	for range rounds(4000) {
		p, input := m.mid(), m.Input()
		for _, fuel := range []int{m.Intn(20), m.Intn(100), 1000} {
			found[does(t, p, input, fuel).End]++
		}
	}
	for _, end := range []int{api.EndDone, api.EndDiv, api.EndIndex, api.EndDeep, api.EndOpen} {
		if found[end] < rounds(100) {
			t.Errorf("%d runs end with %d", found[end], end)
		}
	}
}

// P15.5: what is picked of programs, folded and thinned ones too.
func TestSamePrograms(t *testing.T) {
	m := newMaker(156)
	done := 0
	for range rounds(1500) {
		p := flow.LowerAll(m.Prog())
		for _, q := range []api.Mid{p, dead.Mid(fold.Mid(p))} {
			if does(t, q, m.Input(), 2000).End == api.EndDone {
				done++
			}
		}
	}
	if done < rounds(1500) {
		t.Error(done)
	}
}
