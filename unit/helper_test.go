package unit_test

import (
	"math/rand"
	"testing"

	"brazier/api"
	"brazier/check"
	"brazier/sample"
	"brazier/syntax"
	"brazier/unit"
)

// A maker makes random programs and units.
type maker struct {
	*rand.Rand
	*sample.Maker
}

func newMaker(seed int64) *maker {
	r := rand.New(rand.NewSource(seed))
	return &maker{Rand: r, Maker: sample.New(r.Intn)}
}

func rounds(n int) int {
	if testing.Short() {
		return n / 10
	}
	return n
}

func one[T any](m *maker, l ...T) T { return l[m.Intn(len(l))] }

// program is one of a text, in which nothing may be wrong.
func program(t *testing.T, text string) api.Prog {
	t.Helper()
	p, err, at := syntax.Parse(text)
	if err != api.OK {
		t.Fatalf("%.200s: %d, %+v", text, err, at)
	}
	if d := check.Check(p); d != (api.Diag{}) {
		t.Fatalf("%.200s: %+v", text, d)
	}
	return p
}

// compiled is the units of a program's functions.
func compiled(p api.Prog) []api.Unit {
	var x unit.Pipeline
	var out []api.Unit
	for _, f := range p.Funcs {
		out = append(out, x.Compile(p, f))
	}
	return out
}

func label(sym string) api.Line { return api.Line{Kind: api.LineLabel, Sym: sym} }

func ins(op, d, a, b int, num int32) api.Line {
	return api.Line{Kind: api.LineIns, Op: op, D: d, A: a, B: b, Num: num}
}

func jal(sym string) api.Line { return api.Line{Kind: api.LineIns, Op: api.Jal, Sym: sym} }

// unitOf is a unit of a name, a frame, and lines behind the first one.
func unitOf(name string, frame int, lines ...api.Line) api.Unit {
	return api.Unit{Name: name, Frame: frame, Lines: append([]api.Line{label(name)}, lines...)}
}
