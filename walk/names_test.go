package walk_test

import (
	"strings"
	"testing"

	"brazier/api"
)

// P10.2: globals, and the words of arrays, are 0 at first.
func TestZeroAtFirst(t *testing.T) {
	prints(t, "print g; print h; print a[0]; print a[1]; print a[2]; print one[0];", "0 0 0 0 0 0")
	ends(t, "int big[4096]; int main() { int i; int s; while (i < 4096) { s = s | big[i]; i = i + 1; } print s; print i; }", "", api.EndDone, 0, "0 4096", 0)
}

// P10.2: a global's word is one for all calls.
func TestGlobals(t *testing.T) {
	prints(t, "g = 5; h = 6; print g; print h; g = h; print g; print h;", "5 6 6 6")
	prints(t, "a[0] = 1; a[1] = 2; a[2] = 3; one[0] = 4; print a[0]; print a[1]; print a[2]; print one[0]; a[1] = 9; print a[0]; print a[1]; print a[2]; print one[0];", "1 2 3 4 1 9 3 4")
	ends(t, "int n; int a[2]; int f() { n = n + 1; a[1] = a[1] + n; return n; } int main() { f(); f(); print n; print a[1]; n = 7; print f(); print a[1]; print a[0]; }", "", api.EndDone, 0, "2 3 8 11 0", 0)
	ends(t, "int n; int f() { n = n + 1; if (n < 5) f(); n = n * 2; } int main() { f(); print n; }", "", api.EndDone, 0, "160", 0)
}

// P10.2: a call's local words are its own.
func TestOwnLocals(t *testing.T) {
	ends(t, "int f(int n) { int m = n; if (n) f(n - 1); n = n + 10; m = m + 20; print n; print m; return m; } int main() { int n = 7; int m = 8; f(2); print n; print m; }", "", api.EndDone, 0, "10 20 11 21 12 22 7 8", 0)
	ends(t, "int f() { int x; x = x + 1; return x; } int main() { print f(); print f(); int x = 5; print f(); print x; }", "", api.EndDone, 0, "1 1 1 5", 0)
	ends(t, "int f(int x) { x = x + 1; return x; } int main() { int x = 3; print f(x); print x; print f(x + f(x)); print x; }", "", api.EndDone, 0, "4 3 8 3", 0)
	ends(t, "int f(int x) { g(x + 1); return x; } int g(int x) { x = 100; } int main() { print f(1); }", "", api.EndDone, 0, "1", 0)
	ends(t, "int x; int f() { return x; } int main() { int x = 5; print f(); print x; }", "", api.EndDone, 0, "0 5", 0)
	ends(t, "int x; int f() { x = 3; return x; } int main() { int x = 5; x = x + f(); print x; { print f() + x; } }", "", api.EndDone, 0, "8 11", 0)
}

// P10.2: parameters are words, of the arguments in order.
func TestParameters(t *testing.T) {
	ends(t, "int f(int a, int b, int c, int d, int e, int g, int h, int i) { print a; print b; print c; print d; print e; print g; print h; print i; } int main() { f(1, 2, 3, 4, 5, 6, 7, 8); }", "", api.EndDone, 0, "1 2 3 4 5 6 7 8", 0)
	ends(t, "int f(int a, int b) { a = b; b = 9; print a; print b; { int a = 4; b = a; print a; } print a; print b; } int main() { f(1, 2); }", "", api.EndDone, 0, "2 9 4 2 4", 0)
	ends(t, "int g; int f(int g) { g = g + 1; return g; } int main() { g = 5; print f(1); print g; }", "", api.EndDone, 0, "2 5", 0)
	ends(t, "int f(int f, int main) { return f * 10 + main; } int main() { print f(1, 2); }", "", api.EndDone, 0, "12", 0)
}

// P10.2: the innermost scope's name is meant; behind its scope the outer one's is again.
func TestShadows(t *testing.T) {
	prints(t, "int x = 1; { int x = 2; print x; { int x = 3; print x; x = 4; print x; } print x; x = 5; } print x;", "2 3 4 2 1")
	prints(t, "g = 1; { int g = 2; print g; g = 3; print g; } print g; int g; print g; g = 7; print g;", "2 3 1 0 7")
	prints(t, "int x = 1; if (1) int x = 2; print x; if (0) ; else int x = 3; print x; while (x == 1) { x = 8; int x = 4; print x; } print x;", "1 1 4 8")
	prints(t, "int x = 1; { x = 2; int x = 3; x = 4; } print x;", "2")
	prints(t, "int x = 1; { int y = 2; { int z = 3; print x * 100 + y * 10 + z; } int z = 4; print x * 100 + y * 10 + z; } int y = 5; { int z = 6; print x * 100 + y * 10 + z; }", "123 124 156")
	prints(t, "a[0] = 1; { int a = 5; print a; { int a = 6; } a = 7; print a; } print a[0]; { int two = 3; print two + 1; } two(1, 2); { int f; print f; } f();", "5 7 1 4 0")
	prints(t, strings.Repeat("{ int x = 1; ", 40)+"x = 2; print x; "+strings.Repeat("} ", 40), "2")
}

// P10.2, P10.3: of a StVar the name is a new word only behind its expression.
func TestVarBehind(t *testing.T) {
	prints(t, "int x = 1; { int x = x + 1; print x; { int x = x * 10; print x; } print x; } print x;", "2 20 2 1")
	prints(t, "g = 4; int g = g + 1; print g; { int g = g + 1; print g; }", "5 6")
	prints(t, "a[1] = 3; int a = a[1]; print a; int f = f(); print f; int two = two(a, f) + 2; print two;", "3 0 2")
	ends(t, "int f(int x) { return x; } int main() { int x = 3; { int x = f(x) + x; print x; } }", "", api.EndDone, 0, "6", 0)
}

// P10.2: each StVar that is begun makes a new word, which is 0 without an expression.
func TestNewWords(t *testing.T) {
	prints(t, "while (g < 3) { g = g + 1; int x; print x; x = g; print x; }", "0 1 0 2 0 3")
	prints(t, "while (g < 3) { g = g + 1; int x = g; print x; x = 9; }", "1 2 3")
	prints(t, "while (g < 3) { g = g + 1; if (g == 2) continue; int x; x = x + g; print x; }", "1 3")
	prints(t, "while (g < 4) { g = g + 1; { int x; x = x + 1; if (g == 2) continue; print x; if (g == 3) break; } int x = 5; print x; }", "1 5 1")
	prints(t, "{ int x = 5; } { int x; print x; } int x; print x;", "0 0")
	prints(t, "int x = 7; while (g < 2) { print x; int x = g; x = x + 5; g = g + 1; print x; } print x;", "7 5 7 6 7")
	ends(t, "int f(int n) { while (n) { int x; x = x + n; n = n - 1; if (x == 2) return x; } return 9; } int main() { print f(3); print f(1); print f(5); }", "", api.EndDone, 0, "2 9 2", 0)
}

// P10.2: behind break, continue and return the names of the scopes that were left are gone.
func TestScopesLeft(t *testing.T) {
	prints(t, "int x = 1; while (1) { int x = 2; { int x = 3; break; } } print x;", "1")
	prints(t, "int x = 1; while (x < 3) { x = x + 1; int x = 50; { int x = 60; continue; } } print x;", "3")
	prints(t, "int x = 1; while (x == 1) if (1) { x = 2; int x = 3; break; } print x;", "2")
	ends(t, "int f(int x) { { int x = 5; while (1) { int x = 6; return x; } } } int main() { int x = 1; print f(2); print x; { int y = f(3) + x; print y; } }", "", api.EndDone, 0, "6 1 7", 0)
}
