package walk_test

import (
	"reflect"
	"slices"
	"testing"

	"brazier/api"
	"brazier/check"
	"brazier/sample"
	"brazier/syntax"
	"brazier/walk"
)

// P10.1 to P10.4: random programs do what the chapter, said another way, lets them do.
func TestRandomPrograms(t *testing.T) {
	m := newMaker(101)
	found := map[int]int{}
	reads, prints, values := 0, 0, 0
	for range rounds(20000) {
		p, input := m.Prog(), m.Input()
		if d := check.Check(p); d != (api.Diag{}) || !syntax.May(p) {
			t.Fatalf("%+v\n%s", d, syntax.Print(p))
		}
		kept, words := sample.CopyProg(p), slices.Clone(input)
		fuel := one(m, 3, 100, 3000, 3000, 3000)
		got, want := walk.Run(p, input, fuel), oracle(p, input, fuel)
		if !equal(got, want) {
			t.Fatalf("with %d, %d: %+v; want %+v\n%s", input, fuel, got, want, syntax.Print(p))
		}
		if !reflect.DeepEqual(p, kept) || !slices.Equal(input, words) {
			t.Fatalf("turned what it was given: %d\n%s", input, syntax.Print(p))
		}
		found[got.End]++
		reads += got.Reads
		prints += len(got.Trace)
		if got.Value != 0 {
			values++
		}
	}
	for _, end := range []int{api.EndDone, api.EndDiv, api.EndIndex, api.EndDeep, api.EndOpen} {
		if found[end] < rounds(500) {
			t.Errorf("%d runs end with %d", found[end], end)
		}
	}
	if reads < rounds(10000) || prints < rounds(20000) || values < rounds(1000) {
		t.Error(reads, prints, values)
	}
}

// P10.6: with more fuel a run that ended ends the same; of one that didn't the trace goes on.
func TestMoreFuel(t *testing.T) {
	m := newMaker(106)
	ended, opened := 0, 0
	for range rounds(1500) {
		p, input := m.Prog(), m.Input()
		const most = 150
		last := walk.Run(p, input, -1)
		for fuel := range most {
			next := walk.Run(p, input, fuel)
			if !walk.Begins(next, last) {
				t.Fatalf("with %d, %d: %+v; was %+v\n%s", input, fuel, next, last, syntax.Print(p))
			}
			if next.End == api.EndOpen && (next.Steps != fuel || last.End != api.EndOpen || next.Reads < last.Reads) || last.End != api.EndOpen && !equal(next, last) {
				t.Fatalf("with %d, %d: %+v; was %+v\n%s", input, fuel, next, last, syntax.Print(p))
			}
			last = next
		}
		if last.End == api.EndOpen {
			opened++
		} else {
			ended++
		}
		if more := walk.Run(p, input, 10*most); !walk.Begins(more, last) || last.End != api.EndOpen && !equal(more, last) {
			t.Fatalf("with %d: %+v; was %+v\n%s", input, more, last, syntax.Print(p))
		}
	}
	if ended < rounds(200) || opened < rounds(200) {
		t.Error(ended, opened)
	}
}

// P10.7: of the input only the words that were taken count.
func TestWordsTaken(t *testing.T) {
	m := newMaker(107)
	some := 0
	for range rounds(6000) {
		p, input := m.Prog(), m.Input()
		got := walk.Run(p, input, 500)
		if got.Reads > len(input) {
			t.Fatalf("%d words of %d\n%s", got.Reads, len(input), syntax.Print(p))
		}
		if got.Reads == len(input) {
			continue
		}
		some++
		taken := slices.Clip(input[:got.Reads])
		for _, other := range [][]int32{append(taken, 99), append(taken, -7, 5, 3), append(taken, m.Input()...), append(taken, 0), taken, append(taken, make([]int32, 100)...)} {
			if again := walk.Run(p, other, 500); !equal(again, got) {
				t.Fatalf("with %d: %+v; with %d: %+v\n%s", input, got, other, again, syntax.Print(p))
			}
		}
	}
	if some < rounds(2000) {
		t.Error(some)
	}
}

// P10.7: words behind the last one are 0, taken or not.
func TestWordsBehind(t *testing.T) {
	m := newMaker(170)
	for range rounds(3000) {
		p, input := m.Prog(), m.Input()
		got := walk.Run(p, input, 500)
		more := walk.Run(p, append(slices.Clone(input), make([]int32, 500)...), 500)
		if more.Reads < got.Reads || got.Reads < len(input) && more.Reads > got.Reads {
			t.Fatalf("%d, then %d words\n%s", got.Reads, more.Reads, syntax.Print(p))
		}
		more.Reads = got.Reads
		if !equal(more, got) {
			t.Fatalf("%+v; with more 0s %+v\n%s", got, more, syntax.Print(p))
		}
	}
}

// P10.8: the order of functions changes nothing.
func TestOrderOfFunctions(t *testing.T) {
	m := newMaker(108)
	for range rounds(3000) {
		p, input := m.Prog(), m.Input()
		got := walk.Run(p, input, 1000)
		q := sample.CopyProg(p)
		m.Shuffle(len(q.Funcs), func(i, j int) { q.Funcs[i], q.Funcs[j] = q.Funcs[j], q.Funcs[i] })
		m.Shuffle(len(q.Globals), func(i, j int) { q.Globals[i], q.Globals[j] = q.Globals[j], q.Globals[i] })
		if again := walk.Run(q, input, 1000); !equal(again, got) {
			t.Fatalf("%+v; was %+v\n%s", again, got, syntax.Print(p))
		}
	}
}

// P10.8: local names change nothing.
func TestNamesOfLocals(t *testing.T) {
	m := newMaker(180)
	turned := 0
	for range rounds(3000) {
		p, input := m.Prog(), m.Input()
		got := walk.Run(p, input, 1000)
		q := api.Prog{Globals: p.Globals}
		for _, f := range p.Funcs {
			own, count := sample.Renamed(f)
			q.Funcs = append(q.Funcs, own)
			turned += count
		}
		if d := check.Check(q); d != (api.Diag{}) {
			t.Fatalf("%+v\n%s", d, syntax.Print(q))
		}
		if again := walk.Run(q, input, 1000); !equal(again, got) {
			t.Fatalf("%+v; was %+v\n%swas\n%s", again, got, syntax.Print(q), syntax.Print(p))
		}
	}
	if turned < rounds(6000) {
		t.Error(turned)
	}
}
