package fold_test

import (
	"math/rand"
	"slices"
	"strings"
	"testing"

	"brazier/api"
	"brazier/flow"
	"brazier/fold"
	"brazier/sample"
	"brazier/trace"
	"brazier/word"
)

// A maker makes random programs and blocks.
type maker struct {
	*rand.Rand
	*sample.Maker
}

func newMaker(seed int64) *maker {
	r := rand.New(rand.NewSource(seed))
	return &maker{Rand: r, Maker: sample.New(r.Intn)}
}

func rounds(n int) int {
	if testing.Short() {
		return n / 10
	}
	return n
}

func one[T any](m *maker, l ...T) T { return l[m.Intn(len(l))] }

// edges are words at and beside the ends of what operators ask.
func edges() []int32 {
	return []int32{0, 1, -1, 2, 5, 31, 32, 33, -31, -32, -33, 64, 65536, -2147483648, -2147483616, 2147483616, 2147483647}
}

// fn is the one function of a text (see sample.Blocks), which must be one that may be.
func fn(t *testing.T, text string) api.Fn {
	t.Helper()
	l := sample.Blocks(text)
	if len(l) != 1 || !flow.MayFn(l[0]) {
		t.Fatalf("%s may not be: %+v", text, l)
	}
	return l[0]
}

// shown is what is known, a line a block: a number, ? of what varies, - of nothing.
func shown(l [][]api.Known) string {
	var lines []string
	for _, row := range l {
		var texts []string
		for _, k := range row {
			texts = append(texts, knownText(k))
		}
		lines = append(lines, strings.Join(texts, " "))
	}
	return strings.Join(lines, "; ")
}

func knownText(k api.Known) string {
	switch {
	case k == api.Known{}:
		return "-"
	case k == api.Known{Kind: 2}:
		return "?"
	case k.Kind == 1:
		return word.Dec(k.Num)
	}
	return "wrong"
}

// knows tells what is known in a function.
func knows(t *testing.T, text, want string) {
	t.Helper()
	if got := shown(fold.Knows(fn(t, text))); got != want {
		t.Errorf("%s: %s; want %s", text, got, want)
	}
}

// behind tells what is known behind instructions of the five registers of a function, the first of which is its parameter.
func behind(t *testing.T, ins, want string) {
	t.Helper()
	knows(t, "fn f 1 5; block 0; "+ins+"; jump 1; block 1; return r0", "? 0 0 0 0; "+want)
}

// becomes tells what a function is made into.
func becomes(t *testing.T, made func(api.Fn) api.Fn, text, want string) {
	t.Helper()
	if got := made(fn(t, text)); !flow.Same(got, fn(t, want)) {
		t.Errorf("%s: %s; want %s", text, flow.Print(got), want)
	}
}

// folds tells what instructions of such a function as behind's are made into.
func folds(t *testing.T, ins, want string) {
	t.Helper()
	const head, end = "fn f 1 5; block 0; ", "; return r3"
	becomes(t, fold.Fn, head+ins+end, head+want+end)
}

// equal is whether all fields are the same, an empty trace and none being one.
func equal(a, b api.Result) bool {
	return a.End == b.End && a.Value == b.Value && a.Steps == b.Steps && a.Reads == b.Reads && slices.Equal(a.Trace, b.Trace)
}

// does tells that two programs' runs are the same, steps and all; it answers what they are.
func does(t *testing.T, got, want api.Mid, input []int32, fuel int) api.Result {
	t.Helper()
	r := trace.Run(want, input, fuel)
	if own := trace.Run(got, input, fuel); !flow.May(got) || !equal(own, r) {
		t.Fatalf("with %d, %d: %+v; want %+v\n%s; was %s", input, fuel, own, r, printed(got), printed(want))
	}
	return r
}

func printed(m api.Mid) string {
	var out strings.Builder
	for _, f := range m.Fns {
		out.WriteString(flow.Print(f))
	}
	return out.String()
}
