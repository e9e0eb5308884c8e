package flow_test

import (
	"math"
	"slices"
	"strings"
	"testing"

	"brazier/api"
	"brazier/check"
	"brazier/flow"
	"brazier/sample"
	"brazier/syntax"
	"brazier/trace"
	"brazier/walk"
)

// plenty is more steps than the programs of the tables take.
const plenty = 100000

// lowered is a program's blocks, which must be such as may be.
func lowered(t *testing.T, p api.Prog) api.Mid {
	t.Helper()
	m := flow.LowerAll(p)
	if !flow.May(m) {
		t.Fatalf("%+v may not be\n%s", m, syntax.Print(p))
	}
	for i, f := range m.Fns {
		if f.Regs > 1024 {
			t.Fatalf("%d registers\n%s", f.Regs, syntax.PrintFunc(p.Funcs[i]))
		}
	}
	return m
}

// as tells that the blocks end as the program does, in at most 10 times as many steps and 10; it answers how that ends.
func as(t *testing.T, p api.Prog, m api.Mid, input []int32, fuel int) api.Result {
	t.Helper()
	r := walk.Run(p, input, fuel)
	got := trace.Run(m, input, 10*r.Steps+10)
	if !walk.Begins(got, r) {
		t.Fatalf("with %d, %d: %+v; want %+v\n%s%s", input, fuel, got, r, syntax.Print(p), printedAll(m))
	}
	return r
}

func printedAll(m api.Mid) string {
	var out strings.Builder
	for _, f := range m.Fns {
		out.WriteString(flow.Print(f))
	}
	return out.String()
}

// ends tells how a text's blocks end with that input, what they print and how many words they take.
func ends(t *testing.T, text, input string, end int, value int32, printed string, reads int) {
	t.Helper()
	p := program(t, text)
	m := lowered(t, p)
	got := trace.Run(m, list(input), plenty)
	if want := (api.Result{End: end, Value: value, Trace: list(printed), Steps: got.Steps, Reads: reads}); !equal(got, want) {
		t.Errorf("%.300q with %q: %+v; want %+v\n%.3000s", text, input, got, want, printedAll(m))
	}
	as(t, p, m, list(input), plenty)
	for fuel := range 40 {
		as(t, p, m, list(input), fuel)
	}
}

// The names that the statements of inMain may have: words, arrays, and functions; tell prints what it is given and answers it, up sets g one higher.
const names = "int g; int h; int a[3]; int one[1]; int f() { } int two(int x, int y) { return x * 10 + y; } int tell(int x) { print x; return x; } int up() { g = g + 1; return g; } int main() { "

// prints tells what a main of these statements prints, and that it then is left with 0.
func prints(t *testing.T, body, printed string) {
	t.Helper()
	ends(t, names+body+" }", "", api.EndDone, 0, printed, 0)
}

// stops tells that a main of these statements ends by what it may not do, behind printing that.
func stops(t *testing.T, body string, end int, printed string) {
	t.Helper()
	ends(t, names+body+" }", "", end, 0, printed, 0)
}

// answers tells what an expression is, and what is printed on the way: where it is returned, printed, kept in words of all sorts, and asked.
func answers(t *testing.T, expr string, value int32, printed string) {
	t.Helper()
	ends(t, names+"return "+expr+"; }", "", api.EndDone, value, printed, 0)
	truth := "0"
	if value != 0 {
		truth = "1"
	}
	n := syntax.PrintExpr(api.Expr{Kind: api.ExNum, Num: value})
	for _, way := range []string{"print E;", "int v = E; print v;", "int v; v = 5; v = E; print v;", "h = E; print h;", "a[2] = E; print a[2];", "print tell2(E);"} {
		ends(t, "int tell2(int x) { return x; } "+names+strings.ReplaceAll(way, "E", expr)+" }", "", api.EndDone, 0, printed+" "+n, 0)
	}
	for _, way := range []string{"if (E) print 1; else print 0;", "while (E) { print 1; return 0; } print 0;", "print !!(E);", "print E && 1;", "print E || 0;", "if (!(E)) print 0; else print 1;", "print 1 && E;", "print 0 || E;"} {
		ends(t, names+strings.ReplaceAll(way, "E", "("+expr+")")+" }", "", api.EndDone, 0, printed+" "+truth, 0)
	}
}

// The chapter's example.
func TestExample(t *testing.T) {
	p := program(t, "int main() { return 1 + 2; }")
	f := flow.Lower(p, p.Funcs[0])
	var nums []int32
	sum := -1
	for _, x := range f.Blocks[0].Ins {
		switch x.Kind {
		case api.InNum:
			nums = append(nums, x.Num)
		case api.InBin:
			sum = x.D
		}
	}
	if !slices.Equal(nums, list("1 2")) || f.Blocks[0].Kind != api.BlReturn || f.Blocks[0].A != sum || f.Name != "main" || f.Params != 0 {
		t.Error(flow.Print(f))
	}
	ends(t, "int main() { return 1 + 2; }", "", api.EndDone, 3, "", 0)
}

// P11.3: expressions.
func TestExpressions(t *testing.T) {
	for expr, value := range map[string]int32{
		"7": 7, "0": 0, "2147483647": math.MaxInt32, "-2147483647 - 1": math.MinInt32, "-5": -5, "!5": 0, "!0": 1, "~5": -6, "!-0": 1, "- - 3": 3, "~~7": 7,
		"7 + 3": 10, "7 - 3": 4, "3 - 7": -4, "7 * 3": 21, "7 / 3": 2, "-7 / 3": -2, "7 % 3": 1, "-7 % 3": -1, "7 << 3": 56, "1 << 33": 2, "-7 >> 1": -4, "6 & 3": 2, "6 | 3": 7, "6 ^ 3": 5,
		"7 < 3": 0, "3 < 7": 1, "3 <= 3": 1, "4 <= 3": 0, "7 > 3": 1, "3 > 3": 0, "3 >= 3": 1, "2 >= 3": 0, "3 == 3": 1, "3 == 4": 0, "3 != 3": 0, "3 != 4": 1,
		"2147483647 + 1": math.MinInt32, "1 + 2 * 3 - 4 / 2": 5, "(1 + 2) * (3 - 4) / 2": -1, "1 - 2 - 3": -4, "100 / 10 / 5": 2,
		"two(1, 2)": 12, "two(two(1, 2), two(3, 4))": 154, "f()": 0, "f() + two(f(), 3) * 2": 6, "a[0]": 0, "a[1 + 1]": 0, "g": 0, "up() + up()": 3, "up() * 10 + g": 11, "g * 10 + up()": 1, "two(g, up())": 1, "two(up(), g)": 11, "two(up(), up())": 12, "two(g, up()) + two(up(), g)": 23,
		"read()": 0,
	} {
		if strings.Contains(expr, "up") || strings.Contains(expr, "read") {
			ends(t, names+"return "+expr+"; }", "", api.EndDone, value, "", 0)
			ends(t, names+"int v = 9; v = "+expr+"; print v; }", "", api.EndDone, 0, syntax.PrintExpr(api.Expr{Kind: api.ExNum, Num: value}), 0)
			continue
		}
		answers(t, expr, value, "")
	}
}

// P11.3: && and || ask for their second value only if it counts.
func TestAndOr(t *testing.T) {
	for expr, want := range map[string]string{
		"tell(0) && tell(2)": "0 0", "tell(1) && tell(0)": "0 1 0", "tell(3) && tell(2)": "1 3 2", "tell(0) || tell(0)": "0 0 0", "tell(0) || tell(5)": "1 0 5", "tell(4) || tell(5)": "1 4",
		"!(tell(0) && tell(2))": "1 0", "!tell(0) && !tell(0)": "1 0 0", "!tell(7) || tell(0)": "0 7 0", "!(tell(1) || tell(2))": "0 1", "!!(tell(0) || tell(2))": "1 0 2",
		"tell(0) || tell(0) || tell(3)": "1 0 0 3", "tell(0) && tell(1) || tell(2)": "1 0 2", "tell(1) || tell(2) && tell(3)": "1 1", "tell(0) || tell(2) && tell(0)": "0 0 2 0", "(tell(0) || tell(2)) && tell(0)": "0 0 2 0", "(tell(0) && tell(1)) && tell(2)": "0 0", "tell(1) && (tell(0) || tell(4))": "1 1 0 4",
		"(tell(1) && tell(2)) + (tell(0) || tell(0))": "1 1 2 0 0", "(tell(1) && tell(2)) == (tell(3) || tell(0))": "1 1 2 3", "tell(tell(0) && tell(1))": "0 0 0", "two(tell(2) && tell(3), tell(0) || tell(0))": "10 2 3 0 0", "-(tell(6) && tell(7))": "-1 6 7", "~(tell(0) && tell(7))": "-1 0", "a[tell(0) && tell(1)]": "0 0", "(tell(1) && tell(2)) << (tell(3) && tell(4))": "2 1 2 3 4",
	} {
		value, printed, _ := strings.Cut(want, " ")
		answers(t, expr, list(value)[0], printed)
	}
	stops(t, "print 0 && 1 / 0; print 1 || 1 / 0; print 1 && 1 / 0;", api.EndDiv, "0 1")
	stops(t, "print 0 && a[3]; print 1 || a[3]; print 0 || a[3];", api.EndIndex, "0 1")
	prints(t, "int x = 3; x = x && tell(x); print x; x = x || tell(x); print x; x = !x || x + 1; print x; x = 0; x = x || !x && tell(x + 5); print x;", "3 1 1 1 5 1")
}

// P11.3: the order in which values are asked for.
func TestOrder(t *testing.T) {
	answers(t, "tell(1) + tell(2) * tell(3)", 7, "1 2 3")
	answers(t, "tell(5) - (tell(2) - tell(1))", 4, "5 2 1")
	answers(t, "two(tell(1), two(tell(2), tell(3)))", 33, "1 2 3")
	answers(t, "tell(tell(1) + tell(2))", 3, "1 2 3")
	prints(t, "a[tell(1)] = tell(7); print a[1]; a[tell(0)] = a[tell(1)] + tell(2); print a[0];", "1 7 7 0 1 2 9")
	stops(t, "a[3] = tell(7);", api.EndIndex, "7")
	stops(t, "a[0 - 1] = tell(7); print 1;", api.EndIndex, "7")
	stops(t, "a[3] = 1 / 0;", api.EndDiv, "")
	stops(t, "print a[tell(3)] + tell(4);", api.EndIndex, "3")
	stops(t, "print tell(1) / tell(0) + tell(2);", api.EndDiv, "1 0")
	stops(t, "two(tell(1), 1 / tell(0));", api.EndDiv, "1 0")
	prints(t, "g = 4; h = g + up() + g; print h; int x = 1; x = x + two(x, x) + x; print x; int y = g; up(); print y; print g;", "14 13 5 6")
	prints(t, "int x = 5; print two(x, tell(x + 1)) + x; x = two(x, x); print x; x = x - x / 2; print x; x = -x; print x; x = x; print x;", "6 61 55 28 -28 -28")
}

// P11.3: each way in which a run ends.
func TestEnds(t *testing.T) {
	stops(t, "print 1; print 1 / g; print 2;", api.EndDiv, "1")
	stops(t, "print 1; print 1 % g; print 2;", api.EndDiv, "1")
	stops(t, "print 1; g = 1 / 0; print 2;", api.EndDiv, "1")
	stops(t, "print 1; int z; z = 7 % z; print 2;", api.EndDiv, "1")
	stops(t, "print a[2]; print one[0]; print one[1];", api.EndIndex, "0 0")
	stops(t, "print a[g - 1];", api.EndIndex, "")
	stops(t, "a[2147483647] = 1;", api.EndIndex, "")
	stops(t, "int x = a[3]; print 1;", api.EndIndex, "")
	ends(t, "int n; int f() { n = n + 1; print n; f(); } int main() { f(); }", "", api.EndDeep, 0, "1 2 3 4 5 6 7 8 9 10 11 12 13 14 15 16 17 18 19 20 21 22 23 24 25 26 27 28 29 30 31", 0)
	ends(t, "int f(int n) { if (n) return f(n - 1) + 1; } int main() { print f(30); print f(31); }", "", api.EndDeep, 0, "30", 0)
	ends(t, "int n; int main() { n = n + 1; if (n < 32) return main() + 2; return 5; }", "", api.EndDone, 67, "", 0)
	ends(t, "int n; int main() { n = n + 1; if (n < 33) return main() + 2; return 5; }", "", api.EndDeep, 0, "", 0)
	ends(t, "int f(int x) { print x; } int main() { f(1); return f(2); }", "", api.EndDone, 0, "1 2", 0)
	ends(t, "int main() { while (1) ; }", "", api.EndOpen, 0, "", 0)
	ends(t, "int main() { print 1; while (1) { } print 2; }", "", api.EndOpen, 0, "1", 0)
	ends(t, "int main() { }", "", api.EndDone, 0, "", 0)
}

// P11.3: the input.
func TestReads(t *testing.T) {
	ends(t, "int main() { print read(); print read() - read(); return read(); }", "5 1 2 3 4", api.EndDone, 3, "5 -1", 4)
	ends(t, "int main() { print read(); print read() - read(); return read(); }", "5 1", api.EndDone, 0, "5 1", 2)
	ends(t, "int main() { while (1) { int x = read(); if (x == 0) return 1; print x; } }", "5 -6 2147483647 0 8", api.EndDone, 1, "5 -6 2147483647", 4)
	ends(t, "int a[3]; int main() { a[read()] = read(); print a[1]; print read() && read(); print read(); }", "1 7 0 3", api.EndDone, 0, "7 0 3", 4)
}

// P11.3: ways on.
func TestWays(t *testing.T) {
	prints(t, "if (1) print 1; if (0) print 2; if (0) print 3; else print 4; if (5) print 6; else print 7; if (0) ; else ; if (1) ; print 8;", "1 4 6 8")
	prints(t, "if (1) if (0) print 1; else print 2; if (0) if (1) print 3; else print 4; if (0) print 5; else if (1) print 6; else print 7; print 8;", "2 6 8")
	prints(t, "while (g < 3) g = g + 1; print g; while (g < 5) { print g; g = g + 1; } while (0) print 9; print 8;", "3 3 4 8")
	prints(t, "while (1) break; print 1; while (1) { g = g + 1; if (g < 3) continue; if (g == 5) break; print g; } print 2;", "1 3 4 2")
	prints(t, "while (g < 3) { g = g + 1; h = 0; while (1) { h = h + 1; if (h == 2) continue; if (h == 4) break; print g * 10 + h; } if (g == 2) break; } print 9;", "11 13 21 23 9")
	prints(t, "while (g < 2) { g = g + 1; { { if (g == 1) { continue; } } break; } } print g;", "2")
	prints(t, "{ print 1; { print 2; } { } ; } print 3; return 0; print 4;", "1 2 3")
	prints(t, "if (1) { print 1; return 0; } else print 2; print 3;", "1")
	prints(t, "if (0) return 1; else { print 1; return 0; } print 3; while (1) { print 4; }", "1")
	prints(t, "while (1) { print 1; return 0; print 2; break; continue; if (g) print 3; else while (1) break; int x = g && h; }", "1")
	prints(t, "while (1) { break; print 1; while (1) { continue; } g = 5; } print g; return g; { int x; x = 1; }", "0")
	ends(t, "int f(int n) { while (1) { if (n > 2) return n; n = n + 1; } } int main() { print f(0); print f(9); return f(2); }", "", api.EndDone, 3, "3 9", 0)
	ends(t, "int f(int n) { if (n < 2) return n; return f(n - 1) + f(n - 2); } int main() { print f(7); return read() / 2; }", "9", api.EndDone, 4, "13", 1)
	ends(t, "int even(int n) { if (n) return odd(n - 1); else return 1; } int odd(int n) { return n && even(n - 1); } int main() { print even(8); print odd(8); print even(7); print odd(7); }", "", api.EndDone, 0, "1 0 0 1", 0)
}

// P11.3: local names, their scopes, their new words.
func TestLocals(t *testing.T) {
	prints(t, "int x = 1; { int x = 2; print x; { int x = 3; print x; x = 4; print x; } print x; x = 5; } print x;", "2 3 4 2 1")
	prints(t, "g = 1; { int g = 2; print g; g = 3; print g; } print g; int g; print g; g = 7; print g;", "2 3 1 0 7")
	prints(t, "int x = 1; if (1) int x = 2; print x; if (0) ; else int x = 3; print x; while (x == 1) { x = 8; int x = 4; print x; } print x;", "1 1 4 8")
	prints(t, "int x = 1; { int x = x + 1; print x; { int x = x * 10; print x; } print x; } print x; int y = x; y = 9; print x;", "2 20 2 1 1")
	prints(t, "g = 4; int g = g + 1; print g; { int g = g + 1; print g; }", "5 6")
	prints(t, "while (g < 3) { g = g + 1; int x; print x; x = g; print x; }", "0 1 0 2 0 3")
	prints(t, "{ int x = 5; int y = 6; } { int x; int y; print x; print y; } int x; print x; { int z; print z; }", "0 0 0 0")
	prints(t, "a[1] = 3; int a = a[1]; print a; int f = f(); print f; int two = two(a, f) + 2; print two;", "3 0 32")
	prints(t, "int x = 1; { int y = 2; { int z = 3; print x * 100 + y * 10 + z; } int z = 4; print x * 100 + y * 10 + z; } int y = 5; { int z = 6; print x * 100 + y * 10 + z; }", "123 124 156")
	ends(t, "int f(int a, int b) { a = b; b = 9; print a; print b; { int a = 4; b = a; print a; } print a; print b; } int main() { int a = 7; f(1, a); print a; }", "", api.EndDone, 0, "7 9 4 7 4 7", 0)
	ends(t, "int f(int n) { int m = n; if (n) f(n - 1); n = n + 10; m = m + 20; print n; print m; return m; } int main() { int n = 7; int m = 8; f(2); print n; print m; }", "", api.EndDone, 0, "10 20 11 21 12 22 7 8", 0)
	ends(t, "int f(int a, int b, int c, int d, int e, int g, int h, int i) { print a; print b; print c; print d; print e; print g; print h; print i; return i; } int main() { return f(1, 2, 3, 4, 5, 6, 7, f(8, 7, 6, 5, 4, 3, 2, 1)); }", "", api.EndDone, 1, "8 7 6 5 4 3 2 1 1 2 3 4 5 6 7 1", 0)
	prints(t, strings.Repeat("{ int x = 1; ", 40)+"x = 2; print x; "+strings.Repeat("} ", 40), "2")
}

// P11.3: a program's globals are as they were, its functions in their order.
func TestLowerAll(t *testing.T) {
	p := program(t, "int g; int z(int x, int y) { return x; } int a[7]; int main() { } int b(int x) { return g; } int h;")
	m := lowered(t, p)
	if !slices.Equal(m.Globals, []api.Global{{Name: "g"}, {Name: "a", Size: 7}, {Name: "h"}}) || len(m.Fns) != 3 {
		t.Fatalf("%+v", m)
	}
	for i, f := range p.Funcs {
		if m.Fns[i].Name != f.Name || m.Fns[i].Params != len(f.Params) || !flow.Same(m.Fns[i], flow.Lower(p, f)) {
			t.Errorf("%+v: %s", f, flow.Print(m.Fns[i]))
		}
	}
	if m := flow.LowerAll(api.Prog{}); len(m.Globals) != 0 || len(m.Fns) != 0 {
		t.Errorf("%+v", m)
	}
}

// P11.3: registers are at most 1024, however much there is of all that takes some.
func TestRegs(t *testing.T) {
	locals := repeated(api.MaxLocals-api.MaxParams, "int v#; ")
	const wide = "print g + # * 2; g = g + #; a[g & 1] = g + 1; up(g + #); if (g + #) g = #; while (g < #) g = g + 1; if (!(g && g + #)) print #; { print g + 1; } "
	const head = "int g; int a[9]; int up(int x) { return x + 1; } int f(int p0, int p1, int p2, int p3, int p4, int p5, int p6, int p7) { "
	deep := func(n int, open, inner, end string) string {
		return strings.Repeat(open, n) + inner + strings.Repeat(end, n)
	}
	for _, body := range []string{
		locals + "return " + deep(62, "f(1, 2, 3, 4, 5, 6, 7, ", "8", ")") + ";",
		locals + "f(1, 2, 3, 4, 5, 6, 7, " + deep(61, "f(g, g, g, g, g, g, g, ", "g", ")") + ");",
		locals + "a[" + deep(62, "f(1, 2, 3, 4, 5, 6, 7, ", "8", ")") + "] = " + deep(62, "f(1, 2, 3, 4, 5, 6, 7, ", "8", ")") + ";",
		locals + "print " + deep(62, "1 + (", "2", ")") + ";", locals + "print " + deep(62, "a[", "2", "]") + ";", locals + "while (" + deep(62, "1 && (", "g", ")") + ") break;", locals + "print " + deep(30, "1 + (g && ", "g", ")") + ";", locals + "print " + deep(62, "-", "g", "") + ";",
		deep(60, "{ int x; int y; ", "print x;", "}"), deep(15, "if (g) { int x; while (g) { int y; ", "print 1;", "} }"), deep(15, "if (!g) { int x; while (!x) { int y = up(x); x = x + 1; ", "print y;", "} }"),
		locals + repeated(300, wide) + "return g + 1;", repeated(1200, "print g + 1; "), repeated(1200, "if (g + 1) ; "), repeated(1200, "g = -g; "), repeated(1200, "up(g); "), repeated(1200, "a[1] = 2; "),
		repeated(40, "{ int x# = g; int y# = x#; print y#; }") + locals[:len("int v0; ")*100],
	} {
		p := program(t, head+body+" } int main() { return f(1, 2, 3, 4, 5, 6, 7, 8); }")
		if !syntax.May(p) {
			t.Fatalf("%.200s", body)
		}
		as(t, p, lowered(t, p), nil, 3000)
	}
}

// P11.3: blocks hang on the function alone, and on what sort of name those are that it names.
func TestHangsOnFunction(t *testing.T) {
	m := newMaker(113)
	for range rounds(3000) {
		p := m.Prog()
		for _, f := range p.Funcs {
			want := flow.Lower(p, f)
			if got := flow.Lower(m.otherwise(p, f.Name), sample.CopyFunc(f)); !flow.Same(got, want) {
				t.Fatalf("%s; was %s\n%s", flow.Print(got), flow.Print(want), syntax.Print(p))
			}
		}
	}
}

// otherwise is a program with that function of p, and the same sorts of names, but else another one.
func (m *maker) otherwise(p api.Prog, name string) api.Prog {
	q := sample.CopyProg(p)
	for i := range q.Globals {
		if g := &q.Globals[i]; g.Size > 0 {
			g.Size = 1 + m.Intn(100)
		}
	}
	for i := range q.Funcs {
		if f := &q.Funcs[i]; f.Name != name {
			f.Body = one(m, nil, []api.Stmt{{Kind: api.StPrint, Exprs: []api.Expr{m.Num()}}})
		}
	}
	q.Globals = append(q.Globals, api.Global{Name: "more", Size: m.Intn(3)})
	q.Funcs = append(q.Funcs, api.Func{Name: "another", Params: []string{"g"}})
	m.Shuffle(len(q.Globals), func(i, j int) { q.Globals[i], q.Globals[j] = q.Globals[j], q.Globals[i] })
	m.Shuffle(len(q.Funcs), func(i, j int) { q.Funcs[i], q.Funcs[j] = q.Funcs[j], q.Funcs[i] })
	return q
}

// P11.3, P11.5: what is lowered may be, and ends as the program does, with the same trace.
func TestLowerRandom(t *testing.T) {
	m := newMaker(115)
	found := map[int]int{}
	for range rounds(20000) {
		p, input := m.Prog(), m.Input()
		if d := check.Check(p); d != (api.Diag{}) || !syntax.May(p) {
			t.Fatalf("%+v\n%s", d, syntax.Print(p))
		}
		mid := lowered(t, p)
		r := as(t, p, mid, input, one(m, 3, 20, 100, 3000, 3000, 3000))
		found[r.End]++
		if got, far := trace.Run(mid, input, 500), walk.Run(p, input, 3000); !agree(got, far) {
			t.Fatalf("with %d: %+v; want %+v\n%s%s", input, got, far, syntax.Print(p), printedAll(mid))
		}
	}
	for _, end := range []int{api.EndDone, api.EndDiv, api.EndIndex, api.EndDeep, api.EndOpen} {
		if found[end] < rounds(500) {
			t.Errorf("%d runs end with %d", found[end], end)
		}
	}
}

// agree is whether two runs may be one, with more fuel or less.
func agree(a, b api.Result) bool {
	if len(a.Trace) < len(b.Trace) || a.End == api.EndOpen {
		a, b = b, a
	}
	return walk.Begins(a, b) || a.End == api.EndOpen && b.End == api.EndOpen && walk.Begins(b, a)
}

// P11.6: local names change nothing.
func TestLocalNames(t *testing.T) {
	m := newMaker(116)
	turned := 0
	for range rounds(3000) {
		p, input := m.Prog(), m.Input()
		q := api.Prog{Globals: p.Globals}
		for _, f := range p.Funcs {
			own, count := sample.Renamed(f)
			q.Funcs = append(q.Funcs, own)
			turned += count
		}
		if d := check.Check(q); d != (api.Diag{}) {
			t.Fatalf("%+v\n%s", d, syntax.Print(q))
		}
		a, b := lowered(t, p), lowered(t, q)
		if !flow.SameMid(a, b) {
			t.Fatalf("%s; was %s\n%s%s", printedAll(b), printedAll(a), syntax.Print(q), syntax.Print(p))
		}
		if x, y := trace.Run(a, input, 1000), trace.Run(b, input, 1000); !equal(x, y) {
			t.Fatalf("%+v; was %+v", y, x)
		}
	}
	if turned < rounds(6000) {
		t.Error(turned)
	}
}
