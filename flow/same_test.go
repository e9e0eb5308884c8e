package flow_test

import (
	"reflect"
	"testing"

	"brazier/api"
	"brazier/flow"
	"brazier/sample"
)

// bare is a copy in which what is empty is nil.
func bare(f api.Fn) api.Fn {
	f.Blocks = sample.Copied(f.Blocks, func(b api.Block) api.Block {
		b.Ins = sample.Copied(b.Ins, func(x api.Ins) api.Ins {
			x.Args = sample.Copied(x.Args, func(n int) int { return n })
			return x
		})
		return b
	})
	return f
}

func bareMid(m api.Mid) api.Mid {
	return api.Mid{Globals: sample.Copied(m.Globals, func(g api.Global) api.Global { return g }), Fns: sample.Copied(m.Fns, bare)}
}

// P11.4: are all fields the same?
func TestSame(t *testing.T) {
	f := fn(t, "fn f 1 3; block 0; r1 = num 2; r2 = r0 + r1; r2 = -r1; r0 = f(r1); a[r0] = r1; branch r1 1 2; block 1; jump 0; block 2; return r1")
	turns := map[string]func(f *api.Fn){
		"Name": func(f *api.Fn) { f.Name = "g" }, "Params": func(f *api.Fn) { f.Params = 2 }, "Regs": func(f *api.Fn) { f.Regs = 4 },
		"a block less": func(f *api.Fn) { f.Blocks = f.Blocks[:2] }, "a block more": func(f *api.Fn) { f.Blocks = append(f.Blocks, api.Block{}) },
		"Kind of an end": func(f *api.Fn) { f.Blocks[0].Kind = 3 }, "A of an end": func(f *api.Fn) { f.Blocks[0].A = 2 }, "To": func(f *api.Fn) { f.Blocks[0].To = 2 }, "Else": func(f *api.Fn) { f.Blocks[0].Else = 1 },
		"an instruction less": func(f *api.Fn) { f.Blocks[0].Ins = f.Blocks[0].Ins[:4] }, "an instruction more": func(f *api.Fn) { f.Blocks[1].Ins = make([]api.Ins, 1) },
		"Kind": func(f *api.Fn) { f.Blocks[0].Ins[0].Kind = 2 }, "Op": func(f *api.Fn) { f.Blocks[0].Ins[1].Op = 2 }, "D": func(f *api.Fn) { f.Blocks[0].Ins[1].D = 1 }, "A": func(f *api.Fn) { f.Blocks[0].Ins[1].A = 1 }, "B": func(f *api.Fn) { f.Blocks[0].Ins[1].B = 0 },
		"Num": func(f *api.Fn) { f.Blocks[0].Ins[0].Num = 3 }, "Name of an instruction": func(f *api.Fn) { f.Blocks[0].Ins[4].Name = "b" }, "an argument": func(f *api.Fn) { f.Blocks[0].Ins[3].Args[0] = 0 }, "no argument": func(f *api.Fn) { f.Blocks[0].Ins[3].Args = nil }, "two arguments": func(f *api.Fn) { f.Blocks[0].Ins[3].Args = []int{1, 1} },
	}
	for what, turn := range turns {
		other := sample.CopyFn(f)
		if !flow.Same(f, other) || !flow.SameMid(api.Mid{Fns: []api.Fn{f}}, api.Mid{Fns: []api.Fn{other}}) {
			t.Errorf("a copy is the same")
		}
		turn(&other)
		if flow.Same(f, other) || flow.Same(other, f) || flow.SameMid(api.Mid{Fns: []api.Fn{f}}, api.Mid{Fns: []api.Fn{other}}) {
			t.Errorf("%s: not the same", what)
		}
	}
}

func TestSameMid(t *testing.T) {
	m := sample.Mid("fn main 0 1; block 0; return r0; fn f 0 1; block 0; return r0")
	for what, turn := range map[string]func(m *api.Mid){
		"Name": func(m *api.Mid) { m.Globals[0].Name = "x" }, "Size": func(m *api.Mid) { m.Globals[2].Size = 4 }, "no globals": func(m *api.Mid) { m.Globals = nil }, "a global less": func(m *api.Mid) { m.Globals = m.Globals[1:] }, "another order of globals": func(m *api.Mid) { m.Globals[0], m.Globals[1] = m.Globals[1], m.Globals[0] },
		"no functions": func(m *api.Mid) { m.Fns = nil }, "a function less": func(m *api.Mid) { m.Fns = m.Fns[:1] }, "another order": func(m *api.Mid) { m.Fns[0], m.Fns[1] = m.Fns[1], m.Fns[0] }, "a function twice": func(m *api.Mid) { m.Fns = append(m.Fns, m.Fns[1]) },
	} {
		other := sample.CopyMid(m)
		if !flow.SameMid(m, other) {
			t.Error("a copy is the same")
		}
		turn(&other)
		if flow.SameMid(m, other) || flow.SameMid(other, m) {
			t.Errorf("%s: not the same", what)
		}
	}
}

// P11.4, rule 3: by the library, with random turns; lists of nothing are one.
func TestSameRandom(t *testing.T) {
	m := newMaker(5)
	same, other := 0, 0
	for range rounds(20000) {
		a := sample.CopyMid(m.Mid())
		b := sample.CopyMid(a)
		if m.Intn(3) > 0 {
			m.bend(&b)
		}
		want := reflect.DeepEqual(bareMid(a), bareMid(b))
		if got := flow.SameMid(a, b); got != want {
			t.Fatalf("%v; want %v: %+v, %+v", got, want, a, b)
		}
		if len(a.Fns) == len(b.Fns) {
			for i := range a.Fns {
				if got := flow.Same(a.Fns[i], b.Fns[i]); got != reflect.DeepEqual(bare(a.Fns[i]), bare(b.Fns[i])) {
					t.Fatalf("%v: %+v, %+v", got, a.Fns[i], b.Fns[i])
				}
			}
		}
		if want {
			same++
		} else {
			other++
		}
	}
	if same < rounds(4000) || other < rounds(4000) {
		t.Error(same, other)
	}
	empty := api.Mid{Globals: []api.Global{}, Fns: []api.Fn{{Blocks: []api.Block{{Ins: []api.Ins{{Args: []int{}}}}, {Ins: []api.Ins{}}}}, {Blocks: []api.Block{}}}}
	if !flow.SameMid(empty, bareMid(empty)) || !flow.SameMid(api.Mid{}, api.Mid{Globals: []api.Global{}, Fns: []api.Fn{}}) || !flow.Same(api.Fn{}, api.Fn{Blocks: []api.Block{}}) {
		t.Error("nil and empty lists are one")
	}
}
