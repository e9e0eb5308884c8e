package walk_test

import (
	"reflect"
	"slices"
	"strconv"
	"strings"
	"testing"

	"brazier/api"
	"brazier/check"
	"brazier/syntax"
	"brazier/walk"
)

// plenty is more steps than the programs of the tables take.
const plenty = 1000000

// program is a text's tree, in which nothing is wrong.
func program(t *testing.T, text string) api.Prog {
	t.Helper()
	p, err, at := syntax.Parse(text)
	if err != api.OK {
		t.Fatalf("%.300q isn't a program: %d at %+v", text, err, at)
	}
	if d := check.Check(p); d != (api.Diag{}) {
		t.Fatalf("%.300q: %+v", text, d)
	}
	return p
}

// list is the words of a text, with blanks between them.
func list(text string) []int32 {
	var out []int32
	for _, s := range strings.Fields(text) {
		n, err := strconv.ParseInt(s, 10, 32)
		if err != nil {
			panic(err)
		}
		out = append(out, int32(n))
	}
	return out
}

// equal is whether all fields are the same, an empty trace and none being one.
func equal(a, b api.Result) bool {
	same := slices.Equal(a.Trace, b.Trace)
	a.Trace, b.Trace = nil, nil
	return same && reflect.DeepEqual(a, b)
}

// ends tells how a text's run with that input ends, what it prints and how many words it takes; it answers how many steps.
func ends(t *testing.T, text, input string, end int, value int32, trace string, reads int) int {
	t.Helper()
	got := walk.Run(program(t, text), list(input), plenty)
	want := api.Result{End: end, Value: value, Trace: list(trace), Steps: got.Steps, Reads: reads}
	if !equal(got, want) {
		t.Errorf("%.300q with %q: %+v; want %+v", text, input, got, want)
	}
	return got.Steps
}

// The names that the statements of inMain may have: words, arrays, and functions; tell prints what it is given and answers it.
const around = "int g; int h; int a[3]; int one[1]; int f() { } int two(int x, int y) { } int tell(int x) { print x; return x; } int main() { "

// prints tells what a main of these statements prints, and that it then is left with 0.
func prints(t *testing.T, body, trace string) {
	t.Helper()
	ends(t, around+body+" }", "", api.EndDone, 0, trace, 0)
}

// prints with an input, of which so many words are taken.
func printsOf(t *testing.T, body, input, trace string, reads int) {
	t.Helper()
	ends(t, around+body+" }", input, api.EndDone, 0, trace, reads)
}

// answers tells what an expression in a main is, and what is printed on the way.
func answers(t *testing.T, expr string, value int32, trace string) {
	t.Helper()
	ends(t, around+"return "+expr+"; }", "", api.EndDone, value, trace, 0)
}

// stops tells that a main of these statements ends by what it may not do, behind printing that.
func stops(t *testing.T, body string, end int, trace string) {
	t.Helper()
	ends(t, around+body+" }", "", end, 0, trace, 0)
}

// takes tells how many steps a main of these statements takes, however it ends.
func takes(t *testing.T, body string, steps int) {
	t.Helper()
	if got := walk.Run(program(t, around+body+" }"), nil, plenty); got.Steps != steps {
		t.Errorf("%q: %+v; want %d steps", body, got, steps)
	}
}
