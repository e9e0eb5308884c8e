package link_test

import (
	"strconv"
	"strings"
	"testing"

	"brazier/api"
	"brazier/link"
	"brazier/syntax"
)

// P21.5: blanks, comments and brackets in a text change nothing of it.
func TestLayout(t *testing.T) {
	m := newMaker(216)
	for range rounds(700) {
		p := m.Prog()
		want := clean(t, syntax.Print(p))
		for range 3 {
			if text := m.Text(p); clean(t, text) != want {
				t.Fatalf("%s", text)
			}
		}
	}
	want := clean(t, "int a[3]; int f(int x) { return 1 + x * 2; } int main() { if (f(1)) print a[0]; else ; }")
	for _, text := range []string{
		"int a[3];int f(int x){return 1+x*2;}int main(){if(f(1))print a[0];else;}",
		"int\ta\r\n[ 3\n]\n;\n\nint f ( int x )\n{\n\treturn 1 + ((x) * (2));\n}\n\nint main ( ) { if ( (f((1))) ) print ((a[(0)])) ; else { } }\n\n",
		"// a comment\nint f(int x) { return /* here */ (((1 + (x * 2)))); } /**/ int main() { if (f(1)) print a[0]; else ; } int a[3]; // behind all",
	} {
		if got := clean(t, text); got != want {
			t.Errorf("%s: %s; want %s", text, got, want)
		}
	}
	for _, text := range []string{ // these are others
		"int a[3]; int f(int x) { return (1 + x) * 2; } int main() { if (f(1)) print a[0]; else ; }",
		"int a[4]; int f(int x) { return 1 + x * 2; } int main() { if (f(1)) print a[0]; else ; }",
		"int a[3]; int main() { if (f(1)) print a[0]; else ; } int f(int x) { return 1 + x * 2; }",
	} {
		if clean(t, text) == want {
			t.Errorf("%s: the same", text)
		}
	}
}

// P21.3: of any bytes there is a Diag, or a program that can be loaded.
func TestAnyBytes(t *testing.T) {
	m := newMaker(217)
	for range rounds(20000) {
		b := make([]byte, m.Intn(60))
		for i := range b {
			b[i] = one(m, byte(m.Intn(256)), "intmainfx(){}[];,=+-*/1290 \n"[m.Intn(28)])
		}
		text := one(m, "", "int main() { ", "int g; int main() { print ") + string(b) + one(m, "", "}", "; }")
		out, d := link.Clean(text)
		if (d == api.Diag{}) != (out != "") {
			t.Fatalf("%q: %+v, %q", text, d, out)
		}
		if out != "" {
			loaded(t, out)
		}
	}
	for c := range 256 {
		for _, text := range []string{string([]byte{byte(c)}), "int main() { } " + string([]byte{byte(c)}), "int main() { /*" + string([]byte{byte(c)}) + "*/ }"} {
			if out, d := link.Clean(text); d == (api.Diag{}) {
				loaded(t, out)
			} else if out != "" {
				t.Errorf("%q: %+v, %s", text, d, out)
			}
		}
	}
}

// filled is a text of MaxText bytes at most, with as many bodies between its ends as there is room for.
func filled(head, body, tail string) string {
	n := (api.MaxText - len(head) - len(tail)) / len(body)
	return head + strings.Repeat(body, n) + tail
}

// dense is a text of that length of one statement, with so many words beside that are in use from the front to the end, so that they take the machine's registers away.
func dense(words int, statement string) string {
	const head = "int g; int a[9]; int f() { } int k(int a, int b, int c, int d, int e, int g, int h, int i) { } int main() { int x; "
	var prints strings.Builder
	for i := range words {
		prints.WriteString("print v" + strconv.Itoa(i) + "; ")
	}
	tail := prints.String() + "print x; x=" + sum(63) + "; print x; g=" + sum(60) + "&&" + sum(60) + "; }"
	return filled(head+strings.ReplaceAll(locals(words), ";", "=read();"), statement, tail)
}

// sum is g, so many times.
func sum(n int) string { return "g" + strings.Repeat("+g", n-1) }

// P21.3: texts that are as long as may be, of what makes the most instructions.
func TestDense(t *testing.T) {
	both := sum(60) + "&&" + sum(60)
	for _, statement := range []string{
		"g=" + both + ";", "a[" + both + "]=" + both + ";", "k(" + strings.Repeat("g&&g,", 7) + "g&&g);", "g=g" + strings.Repeat("==g", 61) + ";", "g=" + strings.Repeat("a[", 58) + "g" + strings.Repeat("]", 58) + ";", "g=f()" + strings.Repeat("+f()", 61) + ";", "if(g)return g;", "while(g){if(x)break;else continue;}", ";",
	} {
		for _, words := range []int{11, 240} {
			if testing.Short() && words != 11 {
				continue
			}
			if m := loaded(t, clean(t, dense(words, statement))); m.Len() >= 4*api.MaxText {
				t.Errorf("%.100s: %d instructions", statement, m.Len())
			}
		}
	}
}

// P21.3: the greatest counts, sizes and names.
func TestGreatest(t *testing.T) {
	var globals, funcs strings.Builder
	for i := range 63 {
		name := strings.Repeat("n", 61) + string(rune('a'+i/26)) + string(rune('a'+i%26))
		globals.WriteString("int g" + name + "[256]; ")
		funcs.WriteString("int f" + name + "(int a, int b, int c, int d, int e, int f, int g, int h) { while (a) if (b) f" + name + "(h, g, f, e, d, c, b, g" + name + "[a]); } ")
	}
	for _, text := range []string{
		globals.String() + "int g[256]; " + funcs.String() + "int main() { }",
		"int main() { " + strings.Repeat("if (1) ", 62) + "print 1; }",
		"int main() { " + strings.Repeat("{ ", 63) + ";" + strings.Repeat("}", 63) + " }",
		"int main() { print " + strings.Repeat("(", 511) + "1" + strings.Repeat(")", 511) + "; }",
		"int main() { " + locals(256) + "}",
		"int main() { }" + strings.Repeat(" ", api.MaxText-14),
		"int start() { } int lui() { start(); } int x1() { lui(); } int ecall; int main() { x1(); print ecall; main(); }",
	} {
		loaded(t, clean(t, text))
	}
}
