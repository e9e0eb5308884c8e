package walk_test

import (
	"math"
	"strings"
	"testing"

	"brazier/api"
)

// P10.4: numbers, words, the words of arrays.
func TestValues(t *testing.T) {
	answers(t, "0", 0, "")
	answers(t, "7", 7, "")
	answers(t, "2147483647", math.MaxInt32, "")
	answers(t, "g", 0, "")
	answers(t, "a[2]", 0, "")
	ends(t, "int g; int a[3]; int main() { g = 2; a[g] = 5; a[0] = 2; int x = 4; return a[a[0]] * 100 + g * 10 + x; }", "", api.EndDone, 524, "", 0)
}

// P10.4: an index from 0 on that the array has.
func TestIndex(t *testing.T) {
	for _, index := range []string{"3", "4", "-1", "2147483647", "-2147483647 - 1", "4096", "65536", "1 << 31", "1 << 30", "a[0] + 3"} {
		stops(t, "print 1; print a["+index+"]; print 2;", api.EndIndex, "1")
		stops(t, "print 1; print a["+index+"] + tell(2);", api.EndIndex, "1")
		stops(t, "print tell(1) + a["+index+"];", api.EndIndex, "1")
	}
	stops(t, "print one[0]; print one[1];", api.EndIndex, "0")
	stops(t, "print one[-1];", api.EndIndex, "")
	stops(t, "print a[tell(2)]; print a[tell(3)];", api.EndIndex, "2 0 3")
	stops(t, "print a[1 / 0];", api.EndDiv, "")
	stops(t, "print a[a[3]];", api.EndIndex, "")
	ends(t, "int b[4096]; int main() { print b[4095]; print b[4096]; }", "", api.EndIndex, 0, "0", 0)
}

// P10.4: the next word of the input; behind the last one 0, which takes none.
func TestRead(t *testing.T) {
	printsOf(t, "print read(); print read(); print read();", "5 -6 2147483647", "5 -6 2147483647", 3)
	printsOf(t, "print read(); print read(); print read();", "5", "5 0 0", 1)
	printsOf(t, "print read(); print read();", "", "0 0", 0)
	printsOf(t, "print read(); print read();", "0 0 0", "0 0", 2)
	printsOf(t, "print read() - read();", "7 5 1", "2", 2)
	printsOf(t, "a[read()] = read(); print a[1];", "1 9", "9", 2)
	printsOf(t, "two(read(), read()); print read();", "1 2 3", "3", 3)
	printsOf(t, "print 1;", "1 2 3", "1", 0)
	ends(t, "int main() { print read(); return 1 / read(); }", "4 0 5", api.EndDiv, 0, "4", 2)
}

// P10.4: operators of one and of two, as layer 1's.
func TestOperators(t *testing.T) {
	for expr, value := range map[string]int32{
		"7 + 5": 12, "2147483647 + 1": math.MinInt32, "7 - 9": -2, "6 * 7": 42, "65536 * 65536": 0, "46341 * 46341": -2147479015,
		"7 / 2": 3, "-7 / 2": -3, "7 / -2": -3, "7 % 3": 1, "-7 % 3": -1, "7 % -3": 1, "(-2147483647 - 1) / -1": math.MinInt32, "(-2147483647 - 1) % -1": 0,
		"1 << 4": 16, "1 << 33": 2, "1 << -1": math.MinInt32, "16 >> 2": 4, "-1 >> 33": -1, "-16 >> 2": -4,
		"12 & 10": 8, "12 | 10": 14, "12 ^ 10": 6, "-1 & 5": 5, "-2 | 1": -1,
		"1 < 2": 1, "2 < 2": 0, "-1 < 0": 1, "2 <= 2": 1, "3 <= 2": 0, "3 > 2": 1, "2 > 2": 0, "2 >= 2": 1, "1 >= 2": 0, "2 == 2": 1, "2 == 3": 0, "2 != 3": 1, "2 != 2": 0,
		"-5": -5, "- -5": 5, "-(-2147483647 - 1)": math.MinInt32, "!0": 1, "!5": 0, "!!5": 1, "~0": -1, "~5": -6, "-~5": 6,
		"1 + 2 * 3": 7, "(1 + 2) * 3": 9, "10 - 3 - 2": 5,
	} {
		answers(t, expr, value, "")
	}
}

// P10.4: what can't be reckoned ends the run.
func TestDivision(t *testing.T) {
	for _, expr := range []string{"1 / 0", "0 / 0", "1 % 0", "0 % 0", "(-2147483647 - 1) / 0", "5 / g", "5 % f()", "5 / (1 - 1)", "5 / read()", "-(5 / 0)", "1 + 5 / 0", "0 * (5 % 0)", "1 && 1 / 0", "0 || 1 / 0", "1 / 0 && 0", "1 / 0 || 1", "a[1 / 0]", "two(1, 1 / 0)"} {
		stops(t, "print 1; print "+expr+"; print 2;", api.EndDiv, "1")
		stops(t, "print 1; g = "+expr+"; print 2;", api.EndDiv, "1")
		stops(t, "print 1; if ("+expr+") print 2; else print 3;", api.EndDiv, "1")
		stops(t, "print 1; while ("+expr+") print 2;", api.EndDiv, "1")
		stops(t, "print 1; int x = "+expr+"; print 2;", api.EndDiv, "1")
		stops(t, "print 1; a["+expr+"] = tell(2);", api.EndDiv, "1")
		stops(t, "print 1; tell("+expr+");", api.EndDiv, "1")
	}
	ends(t, "int f(int n) { print n; return 6 / n + f(n - 1); } int main() { f(2); print 9; }", "", api.EndDiv, 0, "2 1 0", 0)
}

// P10.4: the kids' values, in order, ahead of what is made of them.
func TestKidsInOrder(t *testing.T) {
	for _, sign := range strings.Fields("+ - * / % << >> & | ^ < <= > >= == !=") {
		ends(t, around+"int x = tell(1) "+sign+" tell(2); }", "", api.EndDone, 0, "1 2", 0)
		stops(t, "g = tell(1) "+sign+" a[tell(3)] + tell(4);", api.EndIndex, "1 3")
		stops(t, "g = a[tell(3)] "+sign+" tell(4);", api.EndIndex, "3")
	}
	answers(t, "tell(1) + tell(2) * tell(3)", 7, "1 2 3")
	answers(t, "(tell(1) + tell(2)) * tell(3)", 9, "1 2 3")
	answers(t, "tell(9) - (tell(1) - tell(2))", 10, "9 1 2")
	answers(t, "-tell(1) + !tell(2)", -1, "1 2")
	answers(t, "a[tell(1)] + a[tell(2)]", 0, "1 2")
	stops(t, "print tell(1) / tell(0) + tell(2);", api.EndDiv, "1 0")
	stops(t, "print tell(2) + tell(1) / tell(0);", api.EndDiv, "2 1 0")
	ends(t, "int g; int f() { g = g + 1; return g; } int main() { print g + f(); print f() + g; print f() * 10 + f(); print g; }", "", api.EndDone, 0, "1 4 34 4", 0)
}

// P10.4: of && and || the second kid's value is asked for only if the first one doesn't tell already.
func TestAndOr(t *testing.T) {
	for _, c := range []struct {
		expr  string
		value int32
		trace string
	}{
		{"tell(0) && tell(0)", 0, "0"}, {"tell(0) && tell(5)", 0, "0"}, {"tell(5) && tell(0)", 0, "5 0"}, {"tell(5) && tell(6)", 1, "5 6"}, {"tell(-1) && tell(-2)", 1, "-1 -2"}, {"tell(1) && tell(2)", 1, "1 2"}, {"tell(2) && tell(1)", 1, "2 1"},
		{"tell(0) || tell(0)", 0, "0 0"}, {"tell(0) || tell(5)", 1, "0 5"}, {"tell(5) || tell(0)", 1, "5"}, {"tell(5) || tell(6)", 1, "5"}, {"tell(-1) || tell(0)", 1, "-1"}, {"tell(0) || tell(-1)", 1, "0 -1"},
		{"tell(0) && 1 / 0", 0, "0"}, {"tell(1) || 1 / 0", 1, "1"}, {"0 && a[3]", 0, ""}, {"1 || a[3]", 1, ""}, {"0 && main()", 0, ""}, {"3 || main()", 1, ""},
		{"tell(1) && tell(2) && tell(0) && tell(3)", 0, "1 2 0"}, {"tell(0) || tell(0) || tell(7) || tell(8)", 1, "0 0 7"},
		{"tell(0) && tell(1) || tell(2)", 1, "0 2"}, {"tell(1) || tell(0) && tell(2)", 1, "1"}, {"tell(0) || tell(3) && tell(0)", 0, "0 3 0"}, {"(tell(1) || tell(2)) && tell(3)", 1, "1 3"},
		{"!(tell(4) && tell(5))", 0, "4 5"}, {"(tell(4) && tell(5)) + (tell(6) || tell(7))", 2, "4 5 6"}, {"tell(256) && tell(512)", 1, "256 512"},
	} {
		answers(t, c.expr, c.value, c.trace)
		ends(t, around+"if ("+c.expr+") return 1; return 0; }", "", api.EndDone, min(c.value, 1), c.trace, 0)
	}
	printsOf(t, "print read() && read(); print read() || read(); print read();", "0 5 6 7", "0 1 6", 3)
}

// P10.4: the arguments' values, in order, then the function's statements.
func TestCalls(t *testing.T) {
	answers(t, "two(tell(1), tell(2)) + tell(3)", 3, "1 2 3")
	answers(t, "tell(tell(1) + tell(2))", 3, "1 2 3")
	answers(t, "tell(5) - tell(3)", 2, "5 3")
	ends(t, "int sub(int x, int y) { print 0; return x - y; } int say(int x) { print x; return x; } int main() { return sub(say(9), sub(say(5), say(1))); }", "", api.EndDone, 5, "9 5 1 0 0", 0)
	ends(t, "int even(int n) { if (n) return odd(n - 1); else return 1; } int odd(int n) { return n && even(n - 1); } int main() { print even(10); print even(7); print odd(9); }", "", api.EndDone, 0, "1 0 1", 0)
	ends(t, "int g; int set(int n) { g = n; return n; } int f(int a, int b, int c) { return a * 100 + b * 10 + c; } int main() { return f(g, set(5), g); }", "", api.EndDone, 55, "", 0)
}

// P10.4: at most MaxCalls calls are within one another, main's counted; the arguments are asked for ahead of that.
func TestDeep(t *testing.T) {
	const down = "int down(int n) { if (n == 0) return 7; return down(n - 1); } int main() { "
	ends(t, down+"return down(30); }", "", api.EndDone, 7, "", 0)
	ends(t, down+"return down(31); }", "", api.EndDeep, 0, "", 0)
	ends(t, down+"int i; while (i < 100) { if (down(30) != 7) return 1; i = i + 1; } return 0; }", "", api.EndDone, 0, "", 0)
	ends(t, down+"down(30); down(30); print down(29) + down(30); down(31); print 1; }", "", api.EndDeep, 0, "14", 0)
	ends(t, "int n; int main() { n = n + 1; print n; if (n < 32) main(); else return 0; }", "", api.EndDone, 0, "1 2 3 4 5 6 7 8 9 10 11 12 13 14 15 16 17 18 19 20 21 22 23 24 25 26 27 28 29 30 31 32", 0)
	ends(t, "int n; int main() { n = n + 1; if (n == 32) print n; if (n < 33) main(); }", "", api.EndDeep, 0, "32", 0)
	ends(t, "int f() { print read(); f(); } int main() { f(); }", strings.Repeat("3 ", 40), api.EndDeep, 0, strings.Repeat("3 ", 31), 31)
	ends(t, "int f(int n) { return f(read()); } int main() { f(read()); }", strings.Repeat("3 ", 40), api.EndDeep, 0, "", 32)
	ends(t, "int f(int n) { return f(n + 1 + 0 / (31 - n)); } int main() { f(1); }", "", api.EndDiv, 0, "", 0)
	ends(t, "int f(int n) { return f(n + 1 + 0 / (32 - n)); } int main() { f(1); }", "", api.EndDeep, 0, "", 0)
	ends(t, "int a() { return b() + 1; } int b() { return c() + 1; } int c() { return d() + 1; } int d() { return 1; } int main() { return a() * a(); }", "", api.EndDone, 16, "", 0)
	ends(t, "int leaf(int n) { return n; } int f(int n) { if (n) return f(n - 1); return leaf(leaf(4)) + leaf(5); } int main() { print f(29); print f(30); }", "", api.EndDeep, 0, "9", 0)
}
