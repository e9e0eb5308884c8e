package trace_test

import (
	"math/rand"
	"reflect"
	"slices"
	"strconv"
	"strings"
	"testing"

	"brazier/api"
	"brazier/flow"
	"brazier/sample"
	"brazier/trace"
)

// plenty is more steps than the programs of the tables take.
const plenty = 100000

// A maker makes random programs and blocks.
type maker struct {
	*rand.Rand
	*sample.Maker
}

func newMaker(seed int64) *maker {
	r := rand.New(rand.NewSource(seed))
	return &maker{Rand: r, Maker: sample.New(r.Intn)}
}

func rounds(n int) int {
	if testing.Short() {
		return n / 10
	}
	return n
}

func one[T any](m *maker, l ...T) T { return l[m.Intn(len(l))] }

// list is the words of a text, with blanks between them.
func list(text string) []int32 {
	var out []int32
	for _, s := range strings.Fields(text) {
		n, err := strconv.ParseInt(s, 10, 32)
		if err != nil {
			panic(err)
		}
		out = append(out, int32(n))
	}
	return out
}

// mid is the program of a text (see sample.Mid), which must be one that may be.
func mid(t *testing.T, text string) api.Mid {
	t.Helper()
	m := sample.Mid(text)
	if !flow.May(m) {
		t.Fatalf("%s may not be: %+v", text, m)
	}
	return m
}

// equal is whether all fields are the same, an empty trace and none being one.
func equal(a, b api.Result) bool {
	same := slices.Equal(a.Trace, b.Trace)
	a.Trace, b.Trace = nil, nil
	return same && reflect.DeepEqual(a, b)
}

// ends tells how a text's run with that input ends, what it prints, how many words and how many steps it takes.
func ends(t *testing.T, text, input string, end int, value int32, printed string, reads, steps int) {
	t.Helper()
	want := api.Result{End: end, Value: value, Trace: list(printed), Steps: steps, Reads: reads}
	if got := trace.Run(mid(t, text), list(input), plenty); !equal(got, want) {
		t.Errorf("%s with %q: %+v; want %+v", text, input, got, want)
	}
}

// main8 is a main of 8 registers, which does that in one block and then returns r0.
func main8(ins string) string { return "fn main 0 8; block 0; " + ins + "; return r0; " }

// answers tells what r0 is behind that, and what was printed on the way.
func answers(t *testing.T, ins string, value int32, printed string) {
	t.Helper()
	ends(t, main8(ins), "", api.EndDone, value, printed, 0, strings.Count(ins, ";")+2)
}

// stops tells that the last of that ends the run, and what was printed ahead of it.
func stops(t *testing.T, ins string, end int, printed string) {
	t.Helper()
	ends(t, main8(ins+"; print r0; print r0"), "", end, 0, printed, 0, strings.Count(ins, ";")+1)
}
