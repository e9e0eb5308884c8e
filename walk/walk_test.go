package walk_test

import (
	"math"
	"slices"
	"strings"
	"testing"

	"brazier/api"
	"brazier/walk"
)

// The chapter's example.
func TestExample(t *testing.T) {
	const text = "int f(int n) { if (n < 2) return n; return f(n - 1) + f(n - 2); } int main() { print f(7); return read() / 2; }"
	ends(t, text, "9", api.EndDone, 4, "13", 1)
	ends(t, text, "9 8", api.EndDone, 4, "13", 1)
	ends(t, text, "-9", api.EndDone, -4, "13", 1)
	ends(t, text, "", api.EndDone, 0, "13", 0)
}

// P10.1: main is called, wherever it stands, and what it returned is the value.
func TestMain(t *testing.T) {
	ends(t, "int main() { }", "", api.EndDone, 0, "", 0)
	ends(t, "int main() { return 5; }", "", api.EndDone, 5, "", 0)
	ends(t, "int main() { return -2147483647 - 1; }", "", api.EndDone, math.MinInt32, "", 0)
	ends(t, "int f() { print 1; return 1; } int main() { print 2; return 2; } int g() { print 3; return 3; }", "", api.EndDone, 2, "2", 0)
	ends(t, "int x; int main() { print x; x = x + 1; if (x < 3) return main(); return 7; }", "", api.EndDone, 7, "0 1 2", 0)
}

// P10.1: what is printed, in order, and how many words of the input were taken.
func TestTrace(t *testing.T) {
	ends(t, "int main() { print 3; print 1; print 2; print 1; return 9; }", "", api.EndDone, 9, "3 1 2 1", 0)
	ends(t, "int main() { print 2147483647; print -2147483647 - 1; }", "", api.EndDone, 0, "2147483647 -2147483648", 0)
	ends(t, "int main() { int n; while (n < 1000) { n = n + 1; if (n % 100 == 0) print n; } return n; }", "", api.EndDone, 1000, "100 200 300 400 500 600 700 800 900 1000", 0)
	ends(t, "int main() { while (1) { int x = read(); if (x == 0) return 1; print x; } }", "5 -6 2147483647 0 8", api.EndDone, 1, "5 -6 2147483647", 4)
}

// P10.1: each statement that is begun is a step, and each expression whose value is asked for.
func TestSteps(t *testing.T) {
	for body, steps := range map[string]int{
		"": 0, ";": 1, "{ }": 1, "; ;": 2, "{ ; }": 2, "{ { { ; } ; } }": 5,
		"int x;": 1, "int x = 1;": 2, "int x = 1 + 2;": 4, "g = 1;": 2, "g = g;": 2, "a[0] = 1;": 3, "a[0] = a[1];": 4, "a[a[1]] = -1;": 5,
		"print 1;": 2, "print g;": 2, "print read();": 2, "print -1;": 3, "print - - 1;": 4, "print 1 + 2 * 3;": 6, "print a[1];": 3,
		"return 1;": 2, "return 1; ; ;": 2, "{ return 1; } ;": 3,
		"f();": 1, "two(1, 2);": 3, "print f();": 2, "print two(1, g);": 4, "print two(f(), f() + 1);": 6, "tell(1);": 6, "print tell(1);": 7, "tell(tell(1));": 11,
		"if (0) ;": 2, "if (1) ;": 3, "if (0) ; else ;": 3, "if (1) ; else ;": 3, "if (1) { ; }": 4, "if (0) { ; ; ; } else { ; }": 4, "if (1) if (0) ;": 4,
		"while (0) ;": 2, "while (1) break;": 3, "while (1) { ; break; ; }": 5, "while (1) { { break; } ; } ;": 6, "while (1) return 2;": 4,
		"int x = 3; while (x) x = x - 1;": 19, "int x = 2; while (x) { x = x - 1; continue; ; }": 2 + 1 + 2*7 + 1,
		"print 1 && 1;": 4, "print 0 && 1;": 3, "print 0 || 1;": 4, "print 1 || 1;": 3, "print 0 && (1 + 1) && 1;": 4, "print 1 || (1 + 1) || 1;": 4, "print 1 && (1 + 1) && 1;": 8, "print !(0 && 1);": 4,
		"print 1 / 0;": 4, "print 1 / 0 + f();": 5, "print f() + 1 / 0;": 6, "g = a[3]; ;": 3, "a[3] = 1; ;": 3, "a[3 + 0] = a[3];": 6,
	} {
		takes(t, body, steps)
	}
}

// P10.1: main's own call isn't a step, and a run may take none.
func TestNoSteps(t *testing.T) {
	p := program(t, "int main() { }")
	for _, fuel := range []int{0, 1, -1, math.MinInt, math.MaxInt} {
		if got := walk.Run(p, nil, fuel); !equal(got, api.Result{End: api.EndDone}) {
			t.Errorf("with %d: %+v", fuel, got)
		}
	}
}

// P10.1: with fuel for fewer steps the run is open, with what it did so far.
func TestFuel(t *testing.T) {
	const text = "int main() { int x = read(); print x + 1; if (x) { print read(); } else ; return x / x; }"
	opens := func(fuel, steps int, trace string, reads int) {
		t.Helper()
		got := walk.Run(program(t, text), list("5 6 7"), fuel)
		if !equal(got, api.Result{End: api.EndOpen, Trace: list(trace), Steps: steps, Reads: reads}) {
			t.Errorf("with %d: %+v", fuel, got)
		}
	}
	opens(math.MinInt, 0, "", 0)
	opens(-1, 0, "", 0)
	opens(0, 0, "", 0)
	opens(1, 1, "", 0)
	opens(2, 2, "", 1)
	opens(3, 3, "", 1)
	opens(4, 4, "", 1)
	opens(5, 5, "", 1)
	opens(6, 6, "6", 1)
	opens(7, 7, "6", 1)
	opens(8, 8, "6", 1)
	opens(9, 9, "6", 1)
	opens(10, 10, "6", 1)
	opens(11, 11, "6 6", 2)
	opens(12, 12, "6 6", 2)
	opens(13, 13, "6 6", 2)
	opens(14, 14, "6 6", 2)
	for _, fuel := range []int{15, 16, 1000, math.MaxInt} {
		got := walk.Run(program(t, text), list("5 6 7"), fuel)
		if !equal(got, api.Result{End: api.EndDone, Value: 1, Trace: list("6 6"), Steps: 15, Reads: 2}) {
			t.Errorf("with %d: %+v", fuel, got)
		}
	}
}

// P10.1: a run may go on without an end: it is open then, whatever it does.
func TestOpen(t *testing.T) {
	for _, body := range []string{"while (1) ;", "while (1) { }", "while (1) continue;", "while (1) { { continue; } }", "while (1) while (0) ;", "while (1) while (1) ;", "while (1) while (1) break;", "while (1) g = g + 1;", "while (f() == 0) f();", "while (!read()) ;", "while (1) if (0) break;"} {
		for _, fuel := range []int{0, 1, 2, 3, 10, 12345} {
			if got := walk.Run(program(t, around+body+" }"), nil, fuel); !equal(got, api.Result{End: api.EndOpen, Steps: fuel}) {
				t.Errorf("%q with %d: %+v", body, fuel, got)
			}
		}
	}
	got := walk.Run(program(t, "int main() { while (1) print read(); }"), list("7 8"), 13)
	if !equal(got, api.Result{End: api.EndOpen, Trace: list("7 8 0 0"), Steps: 13, Reads: 2}) {
		t.Errorf("%+v", got)
	}
}

// P10.1: a step is ahead of all that its statement or expression does.
func TestStepAhead(t *testing.T) {
	for _, c := range []struct {
		body  string
		steps int // ahead of that which ends it
		end   int
	}{
		{"print 1 / 0;", 4, api.EndDiv}, {"print 1 % 0;", 4, api.EndDiv}, {"f(); print a[3];", 4, api.EndIndex}, {"a[4] = 1;", 3, api.EndIndex}, {"main();", api.MaxCalls, api.EndDeep}, {"print main();", 2 * api.MaxCalls, api.EndDeep},
	} {
		for fuel := range c.steps + 3 {
			want := api.Result{End: c.end, Steps: c.steps}
			if fuel < c.steps {
				want = api.Result{End: api.EndOpen, Steps: fuel}
			}
			if got := walk.Run(program(t, around+c.body+" }"), nil, fuel); !equal(got, want) {
				t.Errorf("%q with %d: %+v; want %+v", c.body, fuel, got, want)
			}
		}
	}
}

// P10.1: only a run that is done has a value.
func TestNoValue(t *testing.T) {
	stops(t, "print 1; return 7 / g;", api.EndDiv, "1")
	stops(t, "print 1; g = 5; return a[g];", api.EndIndex, "1")
	stops(t, "print 1; return main();", api.EndDeep, strings.Repeat("1 ", api.MaxCalls))
	ends(t, "int f() { return 5; } int main() { f(); return f() / 0; }", "", api.EndDiv, 0, "", 0)
	got := walk.Run(program(t, "int f() { return 5; } int main() { f(); while (1) ; }"), nil, 100)
	if got.Value != 0 || got.End != api.EndOpen {
		t.Errorf("%+v", got)
	}
}

// P10.5: what two results must have in common.
func TestSame(t *testing.T) {
	r := api.Result{End: api.EndDone, Value: 3, Trace: list("1 2"), Steps: 9, Reads: 4}
	for _, c := range []struct {
		turn func(*api.Result)
		same bool
	}{
		{func(r *api.Result) {}, true},
		{func(r *api.Result) { r.Steps = 0 }, true},
		{func(r *api.Result) { r.Trace = append(list("1 2"), 9)[:2] }, true},
		{func(r *api.Result) { r.End = api.EndOpen }, false},
		{func(r *api.Result) { r.End = 0 }, false},
		{func(r *api.Result) { r.Value = -3 }, false},
		{func(r *api.Result) { r.Reads = 5 }, false},
		{func(r *api.Result) { r.Trace = list("1") }, false},
		{func(r *api.Result) { r.Trace = list("1 2 0") }, false},
		{func(r *api.Result) { r.Trace = list("2 1") }, false},
		{func(r *api.Result) { r.Trace = list("1 3") }, false},
		{func(r *api.Result) { r.Trace = nil }, false},
	} {
		other := r
		c.turn(&other)
		if walk.Same(r, other) != c.same || walk.Same(other, r) != c.same {
			t.Errorf("%+v and %+v", r, other)
		}
	}
	if !walk.Same(api.Result{}, api.Result{Trace: []int32{}, Steps: 5}) {
		t.Error("an empty trace and none aren't one")
	}
}

// P10.5: of a run that is open only the trace counts, and it may be a beginning.
func TestBegins(t *testing.T) {
	a := api.Result{End: api.EndDone, Value: 3, Trace: list("1 2 3"), Steps: 9, Reads: 4}
	for trace, begins := range map[string]bool{"": true, "1": true, "1 2": true, "1 2 3": true, "1 2 3 4": false, "2": false, "1 3": false, "1 2 4": false, "2 3": false, "0": false, "3": false} {
		for _, b := range []api.Result{{Trace: list(trace)}, {Trace: list(trace), Steps: 99, Reads: 99, Value: 99}, {Trace: append(list(trace), 7)[:len(list(trace))]}} {
			b.End = api.EndOpen
			if walk.Begins(a, b) != begins {
				t.Errorf("%+v of %+v", b, a)
			}
			open := a
			open.End = api.EndOpen
			if walk.Begins(open, b) != begins {
				t.Errorf("%+v of %+v", b, open)
			}
		}
		b := a
		b.Trace, b.Steps = list(trace), 1
		if walk.Begins(a, b) != (trace == "1 2 3") {
			t.Errorf("%+v of %+v", b, a)
		}
	}
	for _, end := range []int{0, api.EndDone, api.EndDiv, api.EndIndex, api.EndDeep, api.EndFault, 7, -1} {
		b := a
		b.End = end
		if walk.Begins(a, b) != (end == api.EndDone) {
			t.Errorf("%+v of %+v", b, a)
		}
		open := a
		open.End = api.EndOpen
		if walk.Begins(open, b) {
			t.Errorf("%+v of %+v", b, open)
		}
		if !walk.Begins(b, b) || !walk.Begins(b, open) {
			t.Errorf("%+v", b)
		}
	}
	b := a
	b.Value = 4
	c := a
	c.Reads = 3
	if walk.Begins(a, b) || walk.Begins(a, c) || walk.Begins(api.Result{}, a) || !walk.Begins(api.Result{}, api.Result{Trace: []int32{}}) {
		t.Error("Value, Reads or Trace play no part")
	}
}

// Rule 4: what Same and Begins are given stays as it is.
func TestComparedStays(t *testing.T) {
	whole := list("1 2 3 4")
	a, b := api.Result{End: api.EndOpen, Trace: whole[:3]}, api.Result{End: api.EndOpen, Trace: slices.Clone(whole)[:2]}
	if !walk.Begins(a, b) || walk.Same(a, b) {
		t.Error(a, b)
	}
	if walk.Begins(a, api.Result{End: api.EndOpen, Trace: list("1 2 3 4")}) {
		t.Error("a trace's spare room counts")
	}
	if !slices.Equal(whole, list("1 2 3 4")) || !slices.Equal(b.Trace[:4], list("1 2 3 4")) {
		t.Error(whole, b.Trace[:4])
	}
}
