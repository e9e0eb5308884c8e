package walk_test

import (
	"strings"
	"testing"

	"brazier/api"
)

// P10.3: statements are done in order.
func TestInOrder(t *testing.T) {
	prints(t, "print 1; { print 2; { } print 3; ; } print 4;", "1 2 3 4")
	prints(t, "g = 1; g = g + 1; print g; g = g * 5; print g;", "2 10")
}

// P10.3: StVar and StSet.
func TestSet(t *testing.T) {
	prints(t, "int x; int y = 4; print x; print y; x = y; y = 5; print x; print y; x = x + y; print x;", "0 4 4 5 9")
	prints(t, "int x = 2; x = x * x; x = x * x; print x; g = x; x = g - x; print x; print g;", "16 0 16")
	prints(t, "int x = tell(1); x = tell(2) + x; g = tell(x);", "1 2 3")
	ends(t, "int g; int f() { g = 5; return 1; } int main() { g = g + f(); print g; g = f() + g; print g; g = f(); print g; }", "", api.EndDone, 0, "1 6 1", 0)
	ends(t, "int a[2]; int n; int f() { n = 1; return 7; } int main() { a[n] = f(); print a[0]; print a[1]; a[f() - 6] = n; print a[1]; }", "", api.EndDone, 0, "7 0 1", 0)
}

// P10.3: StPut asks for the index's value, then for the second expression's; only then is the index held against the array.
func TestPut(t *testing.T) {
	prints(t, "a[0] = 5; a[2] = 6; a[1] = a[0] + a[2]; print a[0]; print a[1]; print a[2];", "5 11 6")
	prints(t, "a[tell(1)] = tell(2); print a[1];", "1 2 2")
	prints(t, "one[0] = 7; a[2] = 8; a[one[0] - 6] = 9; print a[1]; a[0] = one[0]; one[0] = 1; print a[0]; print one[0];", "9 7 1")
	for _, index := range []string{"3", "4", "-1", "2147483647", "-2147483647 - 1", "4096", "65536", "1 << 31", "1 << 30"} {
		stops(t, "print 1; a["+index+"] = tell(7); print 2;", api.EndIndex, "1 7")
		stops(t, "print 1; a["+index+"] = tell(7) / 0; print 2;", api.EndDiv, "1 7")
		stops(t, "print 1; a["+index+"] = a["+index+"] + tell(7);", api.EndIndex, "1")
	}
	stops(t, "one[1] = 1;", api.EndIndex, "")
	stops(t, "one[0] = 1; one[-1] = 1;", api.EndIndex, "")
	stops(t, "a[1 / 0] = tell(1);", api.EndDiv, "")
	stops(t, "a[tell(3)] = main();", api.EndDeep, strings.Repeat("3 ", api.MaxCalls-1))
	ends(t, "int b[4096]; int main() { b[4095] = 1; print b[4095]; b[4096] = 2; }", "", api.EndIndex, 0, "1", 0)
}

// P10.3: a StCall is as the expression, and its value is let go.
func TestCallStatement(t *testing.T) {
	prints(t, "f(); two(1, 2); tell(3); tell(tell(4) + 1);", "3 4 5")
	prints(t, "two(tell(1), tell(2)); print 3;", "1 2 3")
	ends(t, "int f() { return 5; } int main() { f(); }", "", api.EndDone, 0, "", 0)
	ends(t, "int f() { return 5; } int main() { f(); return 6; }", "", api.EndDone, 6, "", 0)
	stops(t, "two(tell(1), 1 / 0); tell(2);", api.EndDiv, "1")
}

// P10.3: StIf.
func TestIf(t *testing.T) {
	for expr, is := range map[string]bool{"0": false, "1": true, "2": true, "-1": true, "-2147483647 - 1": true, "1 << 31": true, "256": true, "1 - 1": false, "g": false, "a[0]": false, "read()": false, "f()": false, "!g": true, "1 == 2": false, "1 && 0": false} {
		yes, no := "2", "3"
		if !is {
			yes, no = "3", "2"
		}
		prints(t, "print 1; if ("+expr+") print 2; else print 3; print 4;", "1 "+yes+" 4")
		prints(t, "if (!("+expr+")) print 2; else print 3;", no)
		if is {
			prints(t, "if ("+expr+") print 2;", "2")
			prints(t, "if ("+expr+") { print 2; print 3; } print 4;", "2 3 4")
		} else {
			prints(t, "if ("+expr+") print 2;", "")
			prints(t, "if ("+expr+") { print 2; print 3; } print 4;", "4")
		}
	}
	prints(t, "if (tell(0)) tell(1); else tell(2);", "0 2")
	prints(t, "if (1) if (0) print 1; else print 2;", "2")
	prints(t, "if (0) if (1) print 1; else print 2; print 3;", "3")
	prints(t, "if (0) print 1; else if (0) print 2; else if (1) print 3; else print 4;", "3")
	ends(t, "int f(int n) { if (n) return 1; else return 2; } int g(int n) { if (n) return 3; return 4; } int main() { print f(0); print f(1); print g(0); print g(1); }", "", api.EndDone, 0, "2 1 4 3", 0)
}

// P10.3: StWhile asks for its expression ahead of each time.
func TestWhile(t *testing.T) {
	prints(t, "while (0) print 1; print 2;", "2")
	prints(t, "int n = 3; while (n) { print n; n = n - 1; } print n;", "3 2 1 0")
	prints(t, "int n = -3; while (n) { print n; n = n + 1; }", "-3 -2 -1")
	prints(t, "while (tell(g) < 2) g = g + 1; print 9;", "0 1 2 9")
	prints(t, "int i; while (i < 3) { int j; while (j < i) { print i * 10 + j; j = j + 1; } i = i + 1; }", "10 20 21")
	printsOf(t, "while (read()) print 1;", "1 2 0 3", "1 1", 3)
	printsOf(t, "while (read()) print 1;", "1 2", "1 1", 2)
	stops(t, "while (6 / (2 - g)) { print g; g = g + 1; }", api.EndDiv, "0 1")
	prints(t, "while (6 / (4 - g)) { print g; g = g - 1; }", "0 -1 -2")
	stops(t, "while (1) { print a[g]; g = g + 1; }", api.EndIndex, "0 0 0")
}

// P10.3: StBreak leaves the innermost while, StContinue goes on with its expression.
func TestBreakContinue(t *testing.T) {
	prints(t, "while (1) { print 1; break; print 2; } print 3;", "1 3")
	prints(t, "while (1) { print 1; if (1) { { break; } } print 2; } print 3;", "1 3")
	prints(t, "while (tell(g) < 3) { g = g + 1; if (g == 2) continue; print g * 10; }", "0 10 1 2 30 3")
	prints(t, "while (tell(g) < 3) { g = g + 1; { { continue; } } print 99; }", "0 1 2 3")
	prints(t, "while (g < 3) { g = g + 1; while (1) { print g; break; print 99; } print g * 10; }", "1 10 2 20 3 30")
	prints(t, "while (g < 3) { g = g + 1; while (1) { print g; break; } if (g == 2) break; print g * 10; } print 7;", "1 10 2 7")
	prints(t, "while (g < 3) { g = g + 1; while (h < g) { h = h + 1; continue; print 99; } print h; continue; print 99; }", "1 2 3")
	prints(t, "while (g < 2) { g = g + 1; while (1) { while (1) break; print 5; break; } print 6; }", "5 6 5 6")
	prints(t, "while (1) if (g < 2) g = g + 1; else break; print g;", "2")
	prints(t, "while (g < 5) if (g == 3) break; else { g = g + 1; continue; } print g;", "3")
	prints(t, "while (1) { if (0) ; else break; print 1; } print 2;", "2")
	ends(t, "int f() { while (1) break; return 1; } int main() { while (1) { print f(); f(); break; } print 2; }", "", api.EndDone, 0, "1 2", 0)
	ends(t, "int f() { int i; while (i < 2) { i = i + 1; continue; } return i; } int main() { int n; while (n < 2) { n = n + 1; f(); print f(); } }", "", api.EndDone, 0, "2 2", 0)
}

// P10.3: StReturn leaves the call, wherever it stands in it, and this alone.
func TestReturn(t *testing.T) {
	ends(t, "int main() { print 1; return 2; print 3; }", "", api.EndDone, 2, "1", 0)
	ends(t, "int main() { { { return 2; } print 1; } print 1; }", "", api.EndDone, 2, "", 0)
	ends(t, "int main() { if (1) return 2; return 3; }", "", api.EndDone, 2, "", 0)
	ends(t, "int main() { if (0) ; else { return 2; } return 3; }", "", api.EndDone, 2, "", 0)
	ends(t, "int main() { while (1) return 2; return 3; }", "", api.EndDone, 2, "", 0)
	ends(t, "int main() { while (1) { while (1) { { return 2; } } } return 3; }", "", api.EndDone, 2, "", 0)
	ends(t, "int f() { while (1) { return 4; } } int main() { int i; while (i < 2) { print f(); i = i + 1; } return f() + 1; }", "", api.EndDone, 5, "4 4", 0)
	ends(t, "int f(int n) { if (n == 0) return 0; f(n - 1); print n; return n; } int main() { return f(3); }", "", api.EndDone, 3, "1 2 3", 0)
	ends(t, "int main() { return 1 / 0; }", "", api.EndDiv, 0, "", 0)
	ends(t, "int f() { return read(); } int main() { print f(); f(); return f(); }", "7 8 9", api.EndDone, 9, "7", 3)
}

// P10.3: a call whose statements are all done is left with 0, whatever was returned ahead of it.
func TestLeftWithNothing(t *testing.T) {
	prints(t, "print f(); print two(1, 2);", "0 0")
	ends(t, "int f(int n) { if (n) return 5; } int main() { print f(1); print f(0); print f(1) + f(0); f(1); }", "", api.EndDone, 0, "5 0 5", 0)
	ends(t, "int f(int n) { if (n) { f(n - 1); print 1; } else return 5; } int main() { print f(2); }", "", api.EndDone, 0, "1 1 0", 0)
	ends(t, "int f() { while (1) break; } int main() { print f(); int x = f(); return x; }", "", api.EndDone, 0, "0", 0)
}

// P10.3: what is printed is each value, in order.
func TestPrint(t *testing.T) {
	prints(t, "print 1 + tell(2);", "2 3")
	prints(t, "print 2147483647 + 1; print -1; print 0;", "-2147483648 -1 0")
	stops(t, "print 1; print 2 / 0; print 3;", api.EndDiv, "1")
}
