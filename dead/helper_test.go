package dead_test

import (
	"math/rand"
	"strings"
	"testing"

	"brazier/api"
	"brazier/dead"
	"brazier/flow"
	"brazier/sample"
	"brazier/trace"
	"brazier/walk"
	"brazier/word"
)

// A maker makes random programs and blocks.
type maker struct {
	*rand.Rand
	*sample.Maker
}

func newMaker(seed int64) *maker {
	r := rand.New(rand.NewSource(seed))
	return &maker{Rand: r, Maker: sample.New(r.Intn)}
}

func rounds(n int) int {
	if testing.Short() {
		return n / 10
	}
	return n
}

// fn is the one function of a text (see sample.Blocks), which must be one that may be.
func fn(t *testing.T, text string) api.Fn {
	t.Helper()
	l := sample.Blocks(text)
	if len(l) != 1 || !flow.MayFn(l[0]) {
		t.Fatalf("%s may not be: %+v", text, l)
	}
	return l[0]
}

// shown is registers with a blank between two, a text a block.
func shown(l [][]int) string {
	var lines []string
	for _, regs := range l {
		var texts []string
		for _, r := range regs {
			texts = append(texts, word.Dec(int32(r)))
		}
		lines = append(lines, strings.Join(texts, " "))
	}
	return strings.Join(lines, "; ")
}

// lives tells what is live at the blocks' beginnings and ends.
func lives(t *testing.T, text, in, out string) {
	t.Helper()
	gotIn, gotOut := dead.Live(fn(t, text))
	if shown(gotIn) != in || shown(gotOut) != out {
		t.Errorf("%s: %s | %s; want %s | %s", text, shown(gotIn), shown(gotOut), in, out)
	}
}

// becomes tells what a function is made into.
func becomes(t *testing.T, text, want string) {
	t.Helper()
	if got := dead.Fn(fn(t, text)); !flow.Same(got, fn(t, want)) {
		t.Errorf("%s: %s; want %s", text, flow.Print(got), want)
	}
}

// leaves tells what is left of instructions of a function of six registers, two of which are parameters; it returns r5.
func leaves(t *testing.T, ins, want string) {
	t.Helper()
	const head, end = "fn f 2 6; block 0; ", "return r5"
	becomes(t, head+ins+"; "+end, head+want+"; "+end)
}

// does tells that a program ends as another one does, in at most as many steps; it answers how that ends.
func does(t *testing.T, got, want api.Mid, input []int32, fuel int) api.Result {
	t.Helper()
	r := trace.Run(want, input, fuel)
	own := trace.Run(got, input, fuel)
	if !flow.May(got) || !walk.Begins(own, r) || own.Steps > r.Steps {
		t.Fatalf("with %d, %d: %+v; want %+v\n%s; was %s", input, fuel, own, r, printed(got), printed(want))
	}
	return r
}

func printed(m api.Mid) string {
	var out strings.Builder
	for _, f := range m.Fns {
		out.WriteString(flow.Print(f))
	}
	return out.String()
}
