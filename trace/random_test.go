package trace_test

import (
	"math"
	"reflect"
	"slices"
	"testing"

	"brazier/api"
	"brazier/flow"
	"brazier/sample"
	"brazier/syntax"
	"brazier/trace"
	"brazier/walk"
)

// P12.1 to P12.3: random blocks do what the chapter, said another way, lets them do.
func TestRandomBlocks(t *testing.T) {
	m := newMaker(121)
	found := map[int]int{}
	reads, prints, values, deep := 0, 0, 0, 0
	for range rounds(40000) {
		p, input := m.Mid(), m.Input()
		if !flow.May(p) {
			t.Fatalf("%+v may not be", p)
		}
		kept, words := sample.CopyMid(p), slices.Clone(input)
		fuel := one(m, 3, 30, 100, 1000, 1000, 1000)
		got, want := trace.Run(p, input, fuel), run(p, input, fuel)
		if !equal(got, want) {
			t.Fatalf("with %d, %d: %+v; want %+v\n%+v", input, fuel, got, want, p)
		}
		if !reflect.DeepEqual(p, kept) || !slices.Equal(input, words) {
			t.Fatalf("turned what it was given: %d\n%+v", input, kept)
		}
		found[got.End]++
		reads += got.Reads
		prints += len(got.Trace)
		if got.Value != 0 {
			values++
		}
		if len(p.Fns) > 2 && got.Steps > 50 {
			deep++
		}
	}
	for _, end := range []int{api.EndDone, api.EndDiv, api.EndIndex, api.EndDeep, api.EndOpen} {
		if found[end] < rounds(500) {
			t.Errorf("%d runs end with %d", found[end], end)
		}
	}
	if reads < rounds(10000) || prints < rounds(40000) || values < rounds(4000) || deep < rounds(1000) {
		t.Error(reads, prints, values, deep)
	}
}

// P12.4: with more fuel a run that ended ends the same; of one that didn't the trace goes on.
func TestMoreFuel(t *testing.T) {
	m := newMaker(124)
	ended, opened := 0, 0
	for range rounds(2000) {
		p, input := m.Mid(), m.Input()
		last := trace.Run(p, input, -1)
		for fuel := range 150 {
			next := trace.Run(p, input, fuel)
			if !walk.Begins(next, last) || last.End != api.EndOpen && !equal(next, last) {
				t.Fatalf("with %d, %d: %+v; was %+v\n%+v", input, fuel, next, last, p)
			}
			if next.End == api.EndOpen && (next.Steps != fuel || last.End != api.EndOpen || next.Reads < last.Reads) {
				t.Fatalf("with %d, %d: %+v; was %+v\n%+v", input, fuel, next, last, p)
			}
			last = next
		}
		if last.End == api.EndOpen {
			opened++
		} else {
			ended++
		}
		if more := trace.Run(p, input, 1500); !walk.Begins(more, last) || last.End != api.EndOpen && !equal(more, last) {
			t.Fatalf("with %d: %+v; was %+v\n%+v", input, more, last, p)
		}
	}
	if ended < rounds(500) || opened < rounds(100) {
		t.Error(ended, opened)
	}
}

// P12.5: what layer 11 makes of a program ends as it does, with the same trace.
func TestProgramsAsBlocks(t *testing.T) {
	m := newMaker(125)
	ended := 0
	for range rounds(5000) {
		p, input := m.Prog(), m.Input()
		want := walk.Run(p, input, 500)
		got := trace.Run(flow.LowerAll(p), input, 10*want.Steps+10)
		if !walk.Begins(got, want) {
			t.Fatalf("with %d: %+v; want %+v\n%s", input, got, want, syntax.Print(p))
		}
		if want.End != api.EndOpen {
			ended++
		}
	}
	if ended < rounds(3000) {
		t.Error(ended)
	}
	const text = "int f(int n) { if (n < 2) return n; return f(n - 1) + f(n - 2); } int main() { print f(7); return read() / 2; }"
	p, _, _ := syntax.Parse(text)
	if got := trace.Run(flow.LowerAll(p), list("9"), plenty); got.End != api.EndDone || got.Value != 4 || !slices.Equal(got.Trace, list("13")) || got.Reads != 1 {
		t.Errorf("%+v", got)
	}
}

// Rule 3: nil and empty lists are one.
func TestNilAndEmpty(t *testing.T) {
	m := mid(t, "fn f 0 1; block 0; return r0; "+main8("f(); r0 = read; print r0"))
	want := trace.Run(m, nil, plenty)
	m.Fns[0].Blocks[0].Ins = []api.Ins{}
	m.Fns[1].Blocks[0].Ins[0].Args = []int{}
	if got := trace.Run(m, []int32{}, plenty); !equal(got, want) || got.Steps != 5 {
		t.Errorf("%+v; want %+v", got, want)
	}
	lone := api.Mid{Globals: []api.Global{}, Fns: []api.Fn{{Name: "main", Blocks: []api.Block{{Ins: []api.Ins{}, Kind: api.BlJump}}}}}
	if got := trace.Run(lone, nil, 3); !equal(got, api.Result{End: api.EndOpen, Steps: 3}) {
		t.Errorf("%+v", got)
	}
}

// Rule 4: the input and its spare room stay as they are; an answer is new memory.
func TestMemory(t *testing.T) {
	m := mid(t, "fn main 0 1; block 0; r0 = read; print r0; branch r0 0 1; block 1; return r0")
	whole := list("1 2 3 0 4 5")
	first := trace.Run(m, whole[1:4], plenty)
	if !slices.Equal(first.Trace, list("2 3 0")) || !slices.Equal(whole, list("1 2 3 0 4 5")) {
		t.Errorf("%+v, %d", first, whole)
	}
	for i := range first.Trace {
		first.Trace[i] = 99
	}
	_ = append(first.Trace, 98, 97)
	second := trace.Run(m, whole[1:4], plenty)
	clear(whole)
	if !slices.Equal(second.Trace, list("2 3 0")) {
		t.Errorf("%+v", second)
	}
}

// Rule 6: a run hangs on its arguments alone, and leaves nothing behind.
func TestAgain(t *testing.T) {
	m := newMaker(6)
	var mids []api.Mid
	var inputs [][]int32
	var want []api.Result
	for range rounds(1000) {
		mids, inputs = append(mids, sample.CopyMid(m.Mid())), append(inputs, m.Input())
		want = append(want, trace.Run(mids[len(mids)-1], inputs[len(mids)-1], 300))
	}
	for i, p := range slices.Backward(mids) {
		if got := trace.Run(p, inputs[i], 300); !equal(got, want[i]) {
			t.Errorf("%+v; was %+v\n%+v", got, want[i], p)
		}
	}
	for range 3 {
		ends(t, main8("r0 = g; print r0; r1 = num 1; r0 = r0 + r1; g = r0; r0 = a[r1]; print r0; a[r1] = r1; r0 = g"), "", api.EndDone, 1, "0 0", 0, 10)
	}
}

// Of Mids that may not be nothing is promised, but Run ends, without a panic.
func TestAnyMids(t *testing.T) {
	m := newMaker(1)
	wrong := 0
	for range rounds(20000) {
		p := sample.CopyMid(m.Mid())
		for range 1 + m.Intn(4) {
			m.spoil(&p)
		}
		if !flow.May(p) {
			wrong++
		}
		trace.Run(p, m.Input(), 300)
	}
	if wrong < rounds(10000) {
		t.Error(wrong)
	}
	for _, p := range []api.Mid{
		{}, {Fns: []api.Fn{{}}}, {Fns: []api.Fn{{Name: "main"}}}, {Fns: []api.Fn{{Name: "main", Blocks: []api.Block{{}}}}}, {Fns: []api.Fn{{Name: "main", Regs: math.MaxInt, Blocks: []api.Block{{Kind: api.BlReturn}}}}}, {Fns: []api.Fn{{Name: "main", Regs: 1 << 44, Blocks: []api.Block{{Kind: api.BlReturn}}}}}, {Fns: []api.Fn{{Name: "main", Regs: math.MinInt, Blocks: []api.Block{{Kind: api.BlReturn}}}}},
		{Globals: []api.Global{{Name: "g", Size: math.MaxInt}}}, {Globals: []api.Global{{Name: "g", Size: 1 << 44}}, Fns: sample.Blocks("fn main 0 1; block 0; return r0")}, {Globals: []api.Global{{Name: "g", Size: math.MinInt}}, Fns: sample.Blocks("fn main 0 1; block 0; return r0")},
		{Fns: sample.Blocks("fn main 0 1; block 0; f(); return r0")}, {Fns: sample.Blocks("fn main 0 1; block 0; r0 = g; return r0")}, {Fns: sample.Blocks("fn main 0 1; block 0; jump 1")}, {Fns: sample.Blocks("fn main 3 1; block 0; return r2")}, {Fns: sample.Blocks("fn main 0 1; block 0; main(r0, r0); return r0")},
		{Fns: []api.Fn{{Name: "main", Blocks: []api.Block{{Kind: 9}}}}},
	} {
		for _, fuel := range []int{-1, 0, 1, 5, math.MaxInt} {
			trace.Run(p, nil, fuel)
		}
	}
}

// spoil turns a number of a program's blocks.
func (m *maker) spoil(p *api.Mid) {
	f := &p.Fns[m.Intn(len(p.Fns))]
	n := one(m, -2, -1, 0, 1, 5, 10, 4096, math.MaxInt, math.MinInt, m.Intn(20))
	b := &f.Blocks[m.Intn(len(f.Blocks))]
	fields := []*int{&f.Params, &f.Regs, &b.Kind, &b.A, &b.To, &b.Else, &p.Globals[m.Intn(len(p.Globals))].Size}
	if len(b.Ins) > 0 {
		x := &b.Ins[m.Intn(len(b.Ins))]
		fields = append(fields, &x.Kind, &x.Op, &x.D, &x.A, &x.B)
		for i := range x.Args {
			fields = append(fields, &x.Args[i])
		}
	}
	*one(m, fields...) = n
	if m.Intn(10) == 0 {
		f.Name = "other"
	}
}
