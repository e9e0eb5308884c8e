package pick_test

import (
	"math"
	"math/rand"
	"testing"

	"brazier/api"
	"brazier/flow"
	"brazier/pick"
	"brazier/sample"
)

// A maker makes random programs, blocks and code.
type maker struct {
	*rand.Rand
	*sample.Maker
}

func newMaker(seed int64) *maker {
	r := rand.New(rand.NewSource(seed))
	return &maker{Rand: r, Maker: sample.New(r.Intn)}
}

func rounds(n int) int {
	if testing.Short() {
		return n / 10
	}
	return n
}

func one[T any](m *maker, l ...T) T { return l[m.Intn(len(l))] }

// edges are the numbers at which another instruction is chosen, and some between.
func edges() []int32 {
	return []int32{0, 1, -1, 2, 5, 31, 32, 33, -31, -32, 2046, 2047, 2048, 2049, -2046, -2047, -2048, -2049, 4096, math.MaxInt32, math.MinInt32, math.MinInt32 + 1}
}

// mid is a random program with many numbers at the edges.
func (m *maker) mid() api.Mid {
	p := sample.CopyMid(m.Mid())
	for _, f := range p.Fns {
		for _, b := range f.Blocks {
			for i := range b.Ins {
				if x := &b.Ins[i]; x.Kind == api.InNum && m.Intn(3) == 0 {
					x.Num = one(m, edges()...)
				}
			}
		}
	}
	return p
}

// fn is the one function of a text (see sample.Blocks), which must be one that may be.
func fn(t *testing.T, text string) api.Fn {
	t.Helper()
	l := sample.Blocks(text)
	if len(l) != 1 || !flow.MayFn(l[0]) {
		t.Fatalf("%s may not be: %+v", text, l)
	}
	return l[0]
}

// vfn is the one function of a text (see sample.Vfns).
func vfn(t *testing.T, text string) api.Vfn {
	t.Helper()
	l := sample.Vfns(text)
	if len(l) != 1 {
		t.Fatalf("%s: %+v", text, l)
	}
	for _, x := range l[0].Code {
		if x.Op == 0 {
			t.Fatalf("%s: %+v", text, l)
		}
	}
	return l[0]
}

// becomes tells what is picked of a function.
func becomes(t *testing.T, text, want string) {
	t.Helper()
	if got := pick.Fn(fn(t, text)); !pick.Same(got, vfn(t, want)) || !pick.May(got) {
		t.Errorf("%s: %s; want %s", text, pick.Print(got), pick.Print(vfn(t, want)))
	}
}

// picks tells what is picked of instructions of a function of six registers, two of which are parameters; it returns r5.
func picks(t *testing.T, ins, want string) {
	t.Helper()
	becomes(t, "fn f 2 6; block 0; "+ins+"; return r5", "vfn f 2 6; label 0; "+want+"; ret r5")
}

// picked is a program's functions between virtual registers.
func picked(m api.Mid) sample.Vprog {
	p := sample.Vprog{Globals: m.Globals}
	for _, f := range m.Fns {
		p.Fns = append(p.Fns, pick.Fn(f))
	}
	return p
}
