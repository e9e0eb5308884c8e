package check_test

import (
	"strings"
	"testing"

	"brazier/api"
	"brazier/check"
	"brazier/syntax"
)

// The chapter's examples.
func TestExamples(t *testing.T) {
	told(t, "int main() { x = 1; }", api.ErrName, "main", "x")
	told(t, "int f(int x) { int x; } int main() { }", api.ErrTwice, "f", "x")
	told(t, "int main() { break; }", api.ErrLoop, "main", "break")
}

// P9.1: programs in which nothing is wrong.
func TestRight(t *testing.T) {
	for _, text := range []string{
		"int main() { }",
		"int main() { return 0; } int g; int a[1];",
		"int f(int n) { if (n < 2) return n; return f(n - 1) + f(n - 2); } int main() { print f(7); return read() / 2; }",
		"int main() { even(4); } int even(int n) { if (n) return odd(n - 1); else return 1; } int odd(int n) { return n && even(n - 1); }",
		"int a[10]; int n; int push(int x) { a[n] = x; n = n + 1; } int main() { while (1) { int x = read(); if (!x) break; push(x); continue; } while (n) { n = n - 1; print a[n]; } }",
	} {
		right(t, text)
	}
}

// P9.1: globals of one name.
func TestGlobalsTwice(t *testing.T) {
	told(t, "int x; int x; int main() { }", api.ErrTwice, "", "x")
	told(t, "int x; int y; int x[2]; int main() { }", api.ErrTwice, "", "x")
	told(t, "int x[2]; int y; int x; int main() { }", api.ErrTwice, "", "x")
	told(t, "int x; int y; int z; int y; int x; int main() { }", api.ErrTwice, "", "y")
	right(t, "int x; int X; int x_; int x1; int main() { }")
	right(t, repeated(api.MaxGlobals, "int g#; ")+"int main() { }")
	told(t, repeated(api.MaxGlobals-1, "int g#; ")+"int g0; int main() { }", api.ErrTwice, "", "g0")
}

// P9.1: the words of all globals.
func TestData(t *testing.T) {
	const main = "int main() { }"
	right(t, "int a[4096]; int b[4096]; int c[4096]; int d[4096]; "+main)
	told(t, "int a[4096]; int b[4096]; int c[4096]; int d[4096]; int e; "+main, api.ErrSize, "", "e")
	told(t, "int a[4096]; int b[4096]; int c[4096]; int d[4096]; int e[1]; "+main, api.ErrSize, "", "e")
	told(t, "int e; int a[4096]; int b[4096]; int c[4096]; int d[4096]; "+main, api.ErrSize, "", "d")
	told(t, "int e[1]; int a[4096]; int b[4096]; int c[4096]; int d[4096]; int f[9]; "+main, api.ErrSize, "", "d")
	right(t, "int a[4096]; int b[4096]; int c[4096]; int d[4095]; int e; "+main)
	right(t, "int a[4096]; int b[4096]; int c[4096]; int d[4095]; int e[1]; "+main)
	right(t, "int v; int a[4096]; int w; int b[4096]; int x; int c[4096]; int y; int d[4092]; "+main)
	told(t, "int v; int a[4096]; int w; int b[4096]; int x; int c[4096]; int y; int d[4093]; int e; "+main, api.ErrSize, "", "d")
	told(t, "int a[4096]; int b[4096]; int c[4096]; int d[4095]; int e; int f; "+main, api.ErrSize, "", "f")
	right(t, repeated(api.MaxGlobals, "int a#[256]; ")+main)
	told(t, repeated(api.MaxGlobals-1, "int a#[256]; ")+"int z[257]; "+main, api.ErrSize, "", "z")
}

// P9.1: of one global ErrTwice goes ahead of ErrSize, and what an earlier one has goes ahead of both.
func TestDataAndTwice(t *testing.T) {
	const full = "int a[4096]; int b[4096]; int c[4096]; int d[4096]; "
	told(t, full+"int a; int main() { }", api.ErrTwice, "", "a")
	told(t, full+"int e; int a; int main() { }", api.ErrSize, "", "e")
	told(t, "int a; int a; "+strings.Replace(full, "a", "e", 1)+"int main() { }", api.ErrTwice, "", "a")
	told(t, full+"int e; int f() { } int f() { }", api.ErrSize, "", "e")
	told(t, full+"int e() { } int e() { }", api.ErrTwice, "", "e")
}

// P9.1: functions of a name that is there.
func TestFuncsTwice(t *testing.T) {
	told(t, "int f() { } int f() { } int main() { }", api.ErrTwice, "", "f")
	told(t, "int f() { } int f(int x) { } int main() { }", api.ErrTwice, "", "f")
	told(t, "int main() { } int main() { }", api.ErrTwice, "", "main")
	told(t, "int main() { } int main(int x) { }", api.ErrTwice, "", "main")
	told(t, "int main(int x) { } int main() { }", api.ErrTwice, "", "main")
	told(t, "int f; int f() { } int main() { }", api.ErrTwice, "", "f")
	told(t, "int f() { } int main() { } int f;", api.ErrTwice, "", "f")
	told(t, "int f[3]; int f() { } int main() { }", api.ErrTwice, "", "f")
	told(t, "int main; int main() { }", api.ErrTwice, "", "main")
	told(t, "int g() { } int f() { } int h() { } int f() { } int g() { }", api.ErrTwice, "", "f")
	told(t, "int f() { } int f() { } int g; int g; int main() { }", api.ErrTwice, "", "g")
	told(t, "int h() { } int g() { } int h() { } int g; int main() { }", api.ErrTwice, "", "g")
	right(t, repeated(api.MaxFuncs-1, "int f#() { } ")+"int main() { }")
	told(t, "int main() { } "+repeated(api.MaxFuncs-2, "int f#() { } ")+"int f0() { }", api.ErrTwice, "", "f0")
}

// P9.1: a function main without parameters, ahead of what is wrong in functions, behind what is wrong with their names.
func TestMain(t *testing.T) {
	for _, text := range []string{
		"", "int x;", "int f() { }", "int main;", "int main[4];", "int main; int f() { }", "int main(int x) { }", "int Main() { }", "int main1() { }", "int f() { int main; main = 1; }",
		"int main(int a, int b, int c, int d, int e, int f, int g, int h) { }",
		"int f() { x = 1; }", "int f() { break; }", "int f(int x, int x) { }", "int main(int x, int x) { }", "int f() { main(); }", "int main(int x) { main(); }",
	} {
		told(t, text, api.ErrMain, "", "")
	}
	told(t, "int f() { } int f() { }", api.ErrTwice, "", "f")
	told(t, "int f() { } int main(int x) { } int f() { }", api.ErrTwice, "", "f")
	right(t, "int f() { } int main() { } int g() { }")
}

// P9.1: functions in order, each with its parameters ahead of its statements.
func TestFuncsInOrder(t *testing.T) {
	told(t, "int f() { x = 1; } int main() { y = 1; }", api.ErrName, "f", "x")
	told(t, "int main() { y = 1; } int f() { x = 1; }", api.ErrName, "main", "y")
	told(t, "int main() { } int f() { } int g() { x = 1; } int h(int y, int y) { }", api.ErrName, "g", "x")
	told(t, "int f(int x, int x) { break; } int main() { }", api.ErrTwice, "f", "x")
	told(t, "int f(int x, int y, int y, int x) { } int main() { }", api.ErrTwice, "f", "y")
	told(t, "int f(int x, int y, int x, int y) { } int main() { }", api.ErrTwice, "f", "x")
	told(t, "int f(int a, int b, int c, int d, int e, int g, int h, int a) { } int main() { }", api.ErrTwice, "f", "a")
	right(t, "int f(int a, int b, int c, int d, int e, int g, int h, int i) { } int g(int a, int b) { } int main() { }")
}

// P9.1: the parameters and what the Body's own statements declare are one scope.
func TestOneScope(t *testing.T) {
	const main = " int main() { }"
	told(t, "int f(int x, int y) { int z; int y; }"+main, api.ErrTwice, "f", "y")
	told(t, "int f() { int z; int y; int z; }"+main, api.ErrTwice, "f", "z")
	told(t, "int f() { int z; { int z; } int z = 1; }"+main, api.ErrTwice, "f", "z")
	told(t, "int f() { int z; z = 1; if (z) ; int z; }"+main, api.ErrTwice, "f", "z")
	right(t, "int f(int x) { { int x; } if (x) int x; else int x; while (x) int x; }"+main)
	right(t, "int f(int x) { int y; } int g(int y) { int x; }"+main)
}

// P9.1: each block, and each kid of an if or a while, is a scope of its own, within that in which it stands.
func TestScopes(t *testing.T) {
	for _, body := range []string{
		"int x; { int x; } { int x; { int x; } }", "{ int x; } int x; { int x; x = x; }", "int x; { x = 1; int x; x = 2; } x = 3;", "{ int x; } { int x; }", "{ { { int x; } int x; } int x; }",
		"if (1) int x;", "if (1) int x; int x;", "int x; if (x) int x = x;", "if (1) int x; else int x;", "if (1) if (1) int x; else int x; else int x;", "int x; while (x) int x = x;", "while (1) int x; int x;", "while (1) while (1) int x;",
		"int x; if (x) { int x; x = 1; }", "if (1) { int x; } else { int x; }", "while (1) { int x; while (x) { int x; x = x; } }", "int x; if (1) x = 1; else x = 2; while (x) x = 0; { x = 3; { print x; } }",
		"int x; { int y = x; { int z = x + y; { print x + y + z; } } }", "int x = 1; { int x = x; { int x = x; } }",
	} {
		fine(t, body)
	}
	for _, body := range []string{
		"{ int x; int x; }", "int y; { int x; { int x; } int x; }", "if (1) { int x; int x; }", "if (1) ; else { int x; int x; }", "while (1) { int x; int x; }", "while (1) { int x; { int x; int x; } }", "if (1) if (1) { int x; int x; }", "{ int y; int x; } { int x; int y; int x; int y; }",
	} {
		inMain(t, body, api.ErrTwice, "x")
	}
	for _, body := range []string{
		"{ int x; } x = 1;", "x = 1; int x;", "{ x = 1; int x; } int x;", "{ x = 1; } int x;", "if (1) int x; x = 1;", "if (1) int x; else x = 1;", "if (1) { int x; } else { x = 1; }", "if (1) ; else int x; x = 1;", "while (1) int x; x = 1;", "while (1) { int x; } print x;", "{ int x; } { print x; }", "{ { int x; } print x; }", "{ { int x; } } print x;",
		"if (1) if (1) int x; else x = 1;", "if (1) { int x; } if (x) ;", "while (x) { int x; }", "if (1) while (1) { int x; } else print x;", "int y; { int x = y; } y = x;",
	} {
		inMain(t, body, api.ErrName, "x")
	}
}

// P9.1: a function's local names are its own.
func TestOtherFunctions(t *testing.T) {
	told(t, "int f(int x) { int y; } int main() { x = 1; }", api.ErrName, "main", "x")
	told(t, "int f(int x) { int y; } int main() { y = 1; }", api.ErrName, "main", "y")
	told(t, "int main() { int x; f(); } int f() { return x; }", api.ErrName, "f", "x")
	told(t, "int main() { while (1) f(); } int f() { continue; }", api.ErrLoop, "f", "continue")
	told(t, "int f() { while (1) ; } int main() { break; }", api.ErrLoop, "main", "break")
	right(t, "int f(int g) { int main; return g + main; } int main() { f(1); } int g() { f(2); main(); }")
}

// P9.2: what a StSet's, StPut's and StCall's name must be.
func TestStatementNames(t *testing.T) {
	fine(t, "g = 1; a[0] = 1; f(); two(1, 2); main(); int x; x = 1;")
	inMain(t, "x = 1;", api.ErrName, "x")
	inMain(t, "a = 1;", api.ErrKind, "a")
	inMain(t, "f = 1;", api.ErrKind, "f")
	inMain(t, "main = 1;", api.ErrKind, "main")
	inMain(t, "x[0] = 1;", api.ErrName, "x")
	inMain(t, "g[0] = 1;", api.ErrKind, "g")
	inMain(t, "f[0] = 1;", api.ErrKind, "f")
	inMain(t, "int x; x[0] = 1;", api.ErrKind, "x")
	inMain(t, "int a; a[0] = 1;", api.ErrKind, "a")
	inMain(t, "x();", api.ErrName, "x")
	inMain(t, "g();", api.ErrKind, "g")
	inMain(t, "a();", api.ErrKind, "a")
	inMain(t, "int x; x();", api.ErrKind, "x")
	inMain(t, "int f; f();", api.ErrKind, "f")
	inMain(t, "int main; main();", api.ErrKind, "main")
	inMain(t, "f(1);", api.ErrArity, "f")
	inMain(t, "two();", api.ErrArity, "two")
	inMain(t, "two(1);", api.ErrArity, "two")
	inMain(t, "two(1, 2, 3);", api.ErrArity, "two")
	told(t, "int f(int x) { return f(x); } int main() { f(1); f(f(2)); f(); }", api.ErrArity, "main", "f")
}

// P9.2: a statement's own name is looked at ahead of its expressions, these in order, then its kids.
func TestStatementOrder(t *testing.T) {
	for _, c := range []struct {
		body string
		err  api.Errno
		name string
	}{
		{"x = y;", api.ErrName, "x"}, {"a = y;", api.ErrKind, "a"}, {"g = y;", api.ErrName, "y"}, {"g = y + x;", api.ErrName, "y"},
		{"x[y] = z;", api.ErrName, "x"}, {"g[y] = z;", api.ErrKind, "g"}, {"a[y] = z;", api.ErrName, "y"}, {"a[1] = z;", api.ErrName, "z"}, {"a[a] = f;", api.ErrKind, "a"}, {"a[1] = f;", api.ErrKind, "f"},
		{"x(y);", api.ErrName, "x"}, {"g(y);", api.ErrKind, "g"}, {"f(y);", api.ErrArity, "f"}, {"two(y);", api.ErrArity, "two"}, {"two(y, x);", api.ErrName, "y"}, {"two(1, x);", api.ErrName, "x"}, {"two(f(1), two(1));", api.ErrArity, "f"},
		{"if (x) y = 1; else z = 1;", api.ErrName, "x"}, {"if (1) y = 1; else z = 1;", api.ErrName, "y"}, {"if (1) ; else z = 1;", api.ErrName, "z"}, {"if (1) { ; } else { { z = 1; } y = 1; }", api.ErrName, "z"},
		{"while (x) y = 1;", api.ErrName, "x"}, {"while (1) y = 1;", api.ErrName, "y"}, {"while (x) { break; }", api.ErrName, "x"},
		{"{ x = 1; y = 1; }", api.ErrName, "x"}, {"{ ; y = 1; } x = 1;", api.ErrName, "y"}, {"{ { x = 1; } } y = 1;", api.ErrName, "x"},
		{"return x;", api.ErrName, "x"}, {"print x;", api.ErrName, "x"}, {"return a;", api.ErrKind, "a"}, {"print f;", api.ErrKind, "f"}, {"int y = x;", api.ErrName, "x"},
		{"break; x = 1;", api.ErrLoop, "break"}, {"x = 1; break;", api.ErrName, "x"}, {"continue; break;", api.ErrLoop, "continue"},
		{"f(); f(1); f = 1;", api.ErrArity, "f"}, {"return 1; x = 1;", api.ErrName, "x"}, {"if (0) x = 1;", api.ErrName, "x"}, {"while (1) ; x = 1;", api.ErrName, "x"},
	} {
		inMain(t, c.body, c.err, c.name)
	}
}

// P9.2: break and continue stand within a while, at any depth, but not in its expression's place or behind it.
func TestLoops(t *testing.T) {
	for _, word := range []string{"break", "continue"} {
		for _, body := range []string{
			"while (1) #;", "while (1) { #; }", "while (1) { ; { { #; } } }", "while (1) if (1) #;", "while (1) if (1) ; else #;", "while (1) { if (1) { #; } else { #; } }", "while (1) while (1) #;", "while (1) { while (1) ; #; }", "while (1) { while (1) { #; } #; } ", "if (1) while (1) #;", "while (1) { #; #; }", "while (0) { int x; #; }",
		} {
			fine(t, strings.ReplaceAll(body, "#", word))
		}
		for _, body := range []string{
			"#;", "{ #; }", "if (1) #;", "if (1) ; else #;", "while (1) ; #;", "while (1) { } #;", "while (1) while (1) ; #;", "{ while (1) ; } if (1) #;", "while (1) { while (1) { break; } continue; } #;", "if (1) while (1) ; else #;", "{ { if (1) { #; } } } while (1) ;", "#; while (1) ;",
		} {
			inMain(t, strings.ReplaceAll(body, "#", word), api.ErrLoop, word)
		}
	}
}

// P9.2: a StVar's expression is looked at ahead of its name, which its scope has from then on.
func TestVar(t *testing.T) {
	inMain(t, "int x = x;", api.ErrName, "x")
	inMain(t, "int x = 1 + f(x);", api.ErrArity, "f")
	inMain(t, "int x; int x = y;", api.ErrName, "y")
	inMain(t, "int x; int x = x;", api.ErrTwice, "x")
	inMain(t, "int a = a;", api.ErrKind, "a")
	inMain(t, "int f = f;", api.ErrKind, "f")
	inMain(t, "int f = f(); f = f();", api.ErrKind, "f")
	inMain(t, "int a = a[1]; a = a[1];", api.ErrKind, "a")
	fine(t, "int g = g; int a = a[g]; int f = f() + a; int two = two(f, a); int main = main(); g = a + f + two + main;")
	fine(t, "int x = 1; int y = x; int z = x + y; { int x = x + y + z; }")
	fine(t, "int x; int y; int z; x = y; y = z; z = x;")
}

// P9.2: at most MaxLocals local names of a function, parameters among them; each StVar counts, wherever it stands.
func TestLocals(t *testing.T) {
	const most = api.MaxLocals
	const main = " int main() { }"
	fine(t, repeated(most, "int x#; "))
	inMain(t, repeated(most, "int x#; ")+"int y;", api.ErrBig, "y")
	inMain(t, repeated(most, "int x#; ")+"int y; int z;", api.ErrBig, "y")
	inMain(t, repeated(most, "int x#; ")+"{ int y; }", api.ErrBig, "y")
	inMain(t, repeated(most, "int x#; ")+"int x0;", api.ErrTwice, "x0")
	inMain(t, repeated(most, "int x#; ")+"int y = z;", api.ErrName, "z")
	inMain(t, repeated(most, "int x#; ")+"int x0 = z;", api.ErrName, "z")
	fine(t, repeated(most, "int x#; ")+"x0 = x255; g = x1; a[x2] = f();")
	fine(t, repeated(most, "{ int x; } "))
	inMain(t, repeated(most, "{ int x; } ")+"int x;", api.ErrBig, "x")
	inMain(t, repeated(most, "if (1) int x; ")+"while (1) int x;", api.ErrBig, "x")
	inMain(t, repeated(most/2, "if (1) int x; else int x; ")+"{ { int x; } }", api.ErrBig, "x")
	fine(t, repeated(most/2, "while (1) { int x; int y; } "))
	inMain(t, repeated(most, "int x#; ")+"int g;", api.ErrBig, "g")
	right(t, "int f(int a, int b, int c, int d, int e, int g, int h, int i) { "+repeated(most-8, "int x#; ")+"}"+main)
	told(t, "int f(int a, int b, int c, int d, int e, int g, int h, int i) { "+repeated(most-8, "int x#; ")+"int y; }"+main, api.ErrBig, "f", "y")
	told(t, "int f(int a) { "+repeated(most-1, "{ int a; } ")+"{ int a; } }"+main, api.ErrBig, "f", "a")
	right(t, "int f() { "+repeated(most, "int x#; ")+"} int g(int y) { "+repeated(most-1, "int x#; ")+"} int main() { "+repeated(most, "int x#; ")+"}")
}

// P9.3: what a name in an expression must be.
func TestExpressionNames(t *testing.T) {
	fine(t, "int x; print g; print a[0]; print f(); print two(1, 2); print x; print read(); print a[a[g]] + f() * -x;")
	for _, e := range []struct {
		text string
		err  api.Errno
		name string
	}{
		{"y", api.ErrName, "y"}, {"a", api.ErrKind, "a"}, {"f", api.ErrKind, "f"}, {"two", api.ErrKind, "two"}, {"main", api.ErrKind, "main"},
		{"y[0]", api.ErrName, "y"}, {"g[0]", api.ErrKind, "g"}, {"x[0]", api.ErrKind, "x"}, {"f[0]", api.ErrKind, "f"},
		{"y()", api.ErrName, "y"}, {"g()", api.ErrKind, "g"}, {"a()", api.ErrKind, "a"}, {"x()", api.ErrKind, "x"}, {"a(1)", api.ErrKind, "a"}, {"x(1)", api.ErrKind, "x"},
		{"f(1)", api.ErrArity, "f"}, {"f(1, 2)", api.ErrArity, "f"}, {"two()", api.ErrArity, "two"}, {"two(1)", api.ErrArity, "two"}, {"two(1, 2, 3)", api.ErrArity, "two"}, {"main(1)", api.ErrArity, "main"},
	} {
		for _, text := range []string{"print #;", "return #;", "g = #;", "int y = #;", "a[#] = 1;", "a[0] = #;", "two(#, 1);", "two(1, #);", "if (#) ;", "while (#) ;", "print -#;", "print !#;", "print 1 + #;", "print # * 2;", "print a[#];", "print two(#, 1);", "print two(1, #);", "print 0 && (1 || ~#);", "while (0) { if (0) print 1; else print a[two(0, 1 - #)]; }"} {
			inMain(t, "int x; "+strings.ReplaceAll(text, "#", e.text), e.err, e.name)
		}
	}
}

// P9.3: an expression's own name is looked at ahead of its kids, these in order.
func TestExpressionOrder(t *testing.T) {
	for _, c := range []struct {
		text string
		err  api.Errno
		name string
	}{
		{"x + y", api.ErrName, "x"}, {"g + y", api.ErrName, "y"}, {"x + y + z", api.ErrName, "x"}, {"g * (y - z) + x", api.ErrName, "y"}, {"-x - y", api.ErrName, "x"}, {"x && y", api.ErrName, "x"}, {"1 || y", api.ErrName, "y"}, {"a + f", api.ErrKind, "a"},
		{"x[y]", api.ErrName, "x"}, {"g[y]", api.ErrKind, "g"}, {"a[y]", api.ErrName, "y"}, {"a[x] + y", api.ErrName, "x"}, {"a[x[y]]", api.ErrName, "x"}, {"a[a]", api.ErrKind, "a"},
		{"x(y)", api.ErrName, "x"}, {"g(y)", api.ErrKind, "g"}, {"f(y)", api.ErrArity, "f"}, {"two(x, y)", api.ErrName, "x"}, {"two(1, y)", api.ErrName, "y"}, {"two(y)", api.ErrArity, "two"}, {"two(f(1), y)", api.ErrArity, "f"}, {"two(two(1, x), f(1))", api.ErrName, "x"}, {"two(1, 2, x)", api.ErrArity, "two"}, {"f() + f(1) + f", api.ErrArity, "f"},
	} {
		inMain(t, "print "+c.text+";", c.err, c.name)
		inMain(t, "g = "+c.text+";", c.err, c.name)
		inMain(t, "int l = "+c.text+";", c.err, c.name)
		inMain(t, "if ("+c.text+") nowhere = 1;", c.err, c.name)
	}
}

// P9.3: a name is the innermost's: local ahead of the global's, the function's.
func TestShadows(t *testing.T) {
	fine(t, "int a; a = 1; print a; int f; f = a; int two; print two + f; int main; main = 1;")
	fine(t, "{ int a; a = 1; } a[0] = 1; { int f; f = 1; } f(); if (1) int a; print a[1]; while (1) int f; print f();")
	fine(t, "a[0] = 1; f(); int a = f(); int f = a; print a + f;")
	inMain(t, "int a; { a[0] = 1; }", api.ErrKind, "a")
	inMain(t, "int a; { { print a[0]; } }", api.ErrKind, "a")
	inMain(t, "int f; { f(); }", api.ErrKind, "f")
	inMain(t, "int f; print f();", api.ErrKind, "f")
	inMain(t, "int two; print two(1);", api.ErrKind, "two")
	told(t, "int f(int f) { return f; } int g(int g) { return g(1); } int main() { }", api.ErrKind, "g", "g")
	told(t, "int a[2]; int f(int a) { return a[0]; } int main() { }", api.ErrKind, "f", "a")
	right(t, "int a[2]; int f(int a) { return a; } int main() { return a[f(1)]; }")
}

// P9.1: of several things that are wrong Check tells the first, and when that is mended the next.
func TestMending(t *testing.T) {
	text := "int g; int @a; int f(int x, int @x) { int @x; @y = 1; { @break; } print @f(); } int @main() { while (1) { @g(); } @two(1); } int two(int x, int y) { return @a + @z; }"
	for _, c := range []struct {
		mended, by string
		err        api.Errno
		in, name   string
	}{
		{"", "", api.ErrName, "f", "y"},
		{"@y = 1", "g = 1", api.ErrLoop, "f", "break"},
		{"@break", "return 1", api.ErrArity, "f", "f"},
		{"@f()", "f(1, 2)", api.ErrKind, "main", "g"},
		{"@g()", "f(3, 4)", api.ErrArity, "main", "two"},
		{"@two(1)", "two(1, 2)", api.ErrName, "two", "z"},
		{"@z", "y", api.OK, "", ""},
	} {
		text = strings.Replace(text, c.mended, c.by, 1)
		clear := strings.NewReplacer("int @x)", "int w)", "int @x;", "int z;", "@", "").Replace(text)
		told(t, clear, c.err, c.in, c.name)
		told(t, strings.Replace(clear, "int w)", "int x)", 1), api.ErrTwice, "f", "x")
		told(t, strings.Replace(clear, "int z;", "int x;", 1), api.ErrTwice, "f", "x")
		told(t, strings.Replace(clear, "int main()", "int main(int z)", 1), api.ErrMain, "", "")
		told(t, strings.Replace(clear, "int main()", "int f()", 1), api.ErrTwice, "", "f")
		told(t, strings.Replace(clear, "int a;", "int g;", 1), api.ErrTwice, "", "g")
	}
}

// A text's Diag has no place.
func TestNoPlace(t *testing.T) {
	for _, text := range []string{"", "int x; int x;", "int main() { x = 1; }", "int main() { }"} {
		if d := check.Check(program(t, text)); d.Place != (api.Place{}) {
			t.Errorf("%q: %+v", text, d)
		}
	}
}

// Names where a kind has none play no part.
func TestNamesThatPlayNoPart(t *testing.T) {
	p := program(t, "int g; int a[2]; int f(int x) { } int main() { int y = 1 + -read(); while (y) { if (y) break; else continue; ; } print (y); return 2; }")
	q := program(t, "int a[2]; int main() { if (1) ; { x = 1; } print -(a[1] + f); }")
	for _, name := range []string{"", "nowhere", "g", "a", "f", "main", "y", "break", "if", "9"} {
		for i, p := range []api.Prog{cloneProg(p), cloneProg(q)} {
			want := check.Check(p)
			callees, globals := check.Uses(p, "main")
			nameNameless(&p, name)
			if d := check.Check(p); d != want || (d == api.Diag{}) != (i == 0) {
				t.Errorf("with %q: %+v; want %+v", name, d, want)
			}
			uses(t, p, "main", strings.Join(callees, " "), strings.Join(globals, " "))
		}
	}
	stray := api.Prog{Funcs: []api.Func{{Name: "main", Body: []api.Stmt{{Kind: api.StContinue, Name: "x"}}}}}
	if d := check.Check(stray); d != (api.Diag{Err: api.ErrLoop, Func: "main", Name: "continue"}) {
		t.Errorf("%+v", d)
	}
}

// nameNameless gives a name to all that has none.
func nameNameless(p *api.Prog, name string) {
	exprs, stmts := nodes(p)
	for _, e := range exprs {
		if e.Name == "" {
			e.Name = name
		}
	}
	for _, s := range stmts {
		if s.Name == "" {
			s.Name = name
		}
	}
}

// Programs may be as great as they may: as deep, with as many scopes, with as much data.
func TestGreat(t *testing.T) {
	blocks := strings.Repeat("{", api.MaxNest-2) + "#" + strings.Repeat("}", api.MaxNest-2)
	fine(t, "int x; "+strings.Replace(blocks, "#", "{ }", 1))
	fine(t, "int x; "+strings.Replace(blocks, "#", "print x;", 1))
	inMain(t, "int x; "+strings.Replace(blocks, "#", "print y;", 1), api.ErrName, "y")
	inMain(t, strings.Replace(blocks, "#", "int x;", 1)+"print x;", api.ErrName, "x")
	fine(t, "int x; "+strings.Repeat("{ int x; ", api.MaxNest-1)+strings.Repeat("}", api.MaxNest-1))
	inMain(t, "int x; "+strings.Repeat("{ int x; ", api.MaxNest-1)+"int x; "+strings.Repeat("}", api.MaxNest-1), api.ErrTwice, "x")
	inMain(t, "print "+strings.Repeat("-", api.MaxNest-2)+"y;", api.ErrName, "y")
	inMain(t, strings.Repeat("while (1) ", api.MaxNest-1)+"; break;", api.ErrLoop, "break")
	fine(t, strings.Repeat("while (1) ", api.MaxNest-1)+"break;")
	long := strings.Repeat("n", 64)
	fine(t, "int "+long+"; "+long+" = 1;")
	inMain(t, "int "+long+"; "+long[1:]+" = 1;", api.ErrName, long[1:])
	fine(t, strings.Repeat("{};", 15000))
	inMain(t, strings.Repeat("g=g;", 10000)+"x=1;", api.ErrName, "x")
}

// Nothing is promised of programs that may not be, but that there is an answer.
func TestTreesThatMayNotBe(t *testing.T) {
	one := []api.Expr{{Kind: api.ExVar, Name: "main"}}
	for kind := -1; kind < 14; kind++ {
		for _, s := range []api.Stmt{{Kind: kind}, {Kind: kind, Name: "x"}, {Kind: kind, Name: "g", Exprs: one, Kids: make([]api.Stmt, 3)}, {Kind: kind, Exprs: []api.Expr{{Kind: kind}, {Kind: kind, Name: "g", Kids: one}}}} {
			p := api.Prog{Globals: []api.Global{{}, {Name: "g", Size: -1}, {Name: "h", Size: 1 << 40}}, Funcs: []api.Func{{}, {Name: "main", Body: []api.Stmt{s, s}}}}
			check.Check(p)
			check.Check(api.Prog{Funcs: p.Funcs})
			check.Uses(p, "main")
			check.Find(p, "main")
			check.Global(p, "g")
		}
	}
	if d := check.Check(api.Prog{}); d != (api.Diag{Err: api.ErrMain}) {
		t.Errorf("%+v", d)
	}
}

// What Check says is of the tree, not of the text: printed and parsed again it is the same.
func TestPrintedAgain(t *testing.T) {
	for _, body := range []string{"x = 1;", "g = 1;", "if (1) int x; else { x = 1; }", "while (1) if (g) break; else continue;", "f(1);"} {
		p := program(t, around+body+" }")
		if d, e := check.Check(p), check.Check(program(t, syntax.Print(p))); d != e {
			t.Errorf("%q: %+v; printed %+v", body, d, e)
		}
	}
}
