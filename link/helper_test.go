package link_test

import (
	"math/rand"
	"reflect"
	"testing"

	"brazier/api"
	"brazier/asm"
	"brazier/link"
	"brazier/riscv"
	"brazier/sample"
)

// A maker makes random programs, texts and units.
type maker struct {
	*rand.Rand
	*sample.Maker
}

func newMaker(seed int64) *maker {
	r := rand.New(rand.NewSource(seed))
	return &maker{Rand: r, Maker: sample.New(r.Intn)}
}

func rounds(n int) int {
	if testing.Short() {
		return n / 10
	}
	return n
}

func one[T any](m *maker, l ...T) T { return l[m.Intn(len(l))] }

func label(sym string) api.Line { return api.Line{Kind: api.LineLabel, Sym: sym} }

func ins(op, d, a, b int, num int32) api.Line {
	return api.Line{Kind: api.LineIns, Op: op, D: d, A: a, B: b, Num: num}
}

func isZero(p api.Prog) bool { return len(p.Globals) == 0 && len(p.Funcs) == 0 }

// clean is the assembly of a text in which nothing may be wrong.
func clean(t *testing.T, text string) string {
	t.Helper()
	out, d := link.Clean(text)
	if d != (api.Diag{}) {
		t.Fatalf("%.200s: %+v", text, d)
	}
	return out
}

// loaded is the machine's program of an assembly, which must be one that may be, and can be loaded.
func loaded(t *testing.T, out string) *riscv.Image {
	t.Helper()
	a, err, line := asm.Parse(out)
	if err != api.OK {
		t.Fatalf("%d, %d: %.2000s", err, line, out)
	}
	m, err := riscv.Load(a)
	if err != api.OK {
		t.Fatalf("%d: %.2000s", err, out)
	}
	return m
}

// alike is whether two programs are the same, lists of nothing being one.
func alike(a, b api.Prog) bool { return reflect.DeepEqual(sample.CopyProg(a), sample.CopyProg(b)) }
