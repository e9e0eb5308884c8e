package syntax

import (
	"fmt"
	"strings"
	"testing"

	"brazier/api"
)

func repeat(s string, n int) string { return strings.Repeat(s, n) }

// nest is n times ahead, then within, then n times behind.
func nest(n int, ahead, within, behind string) string {
	return repeat(ahead, n) + within + repeat(behind, n)
}

// passes tells that Parse answers a program, which may be.
func passes(t *testing.T, text string) {
	t.Helper()
	if p, err, at := Parse(text); err != api.OK || at != (api.Place{}) || !May(p) {
		t.Errorf("Parse(%.200q) = %.200v, %d, %+v", text, p, err, at)
	}
}

// P8.2: brackets that don't count for the Depth: MaxOpen of them may be open, with one more it is ErrNest, there.
func TestOpenBrackets(t *testing.T) {
	const ahead = "int main() { print " // one is open
	passes(t, ahead+nest(api.MaxOpen-1, "(", "1", ")")+"; }")
	passes(t, ahead+nest(api.MaxOpen-1, "( ", "1", "\n)")+"; }")
	passes(t, ahead+nest(api.MaxOpen-2, "(", "a[1]", ")")+"; }")
	passes(t, ahead+nest(api.MaxOpen-2, "(", "f(1)", ")")+"; }")
	passes(t, ahead+nest(api.MaxOpen-2, "(", "read()", ")")+"; }")
	parses(t, ahead+nest(api.MaxOpen-1, "(", "x", ")")+"; }", mainOf(sPrint(eVar("x"))))
	for _, one := range []string{"@(1)", "a@[1]", "f@()", "f@(1)", "read@()", "-@(1)", "1 + @(2)", "@(((1)))"} {
		marked(t, ahead+nest(api.MaxOpen-1, "(", one, ")")+"; }", api.ErrNest)
		marked(t, ahead+repeat("(", api.MaxOpen-1)+one, api.ErrNest)
		at := strings.IndexByte(one, '@')
		marked(t, ahead+repeat("(", api.MaxOpen-1)+one[:at+2], api.ErrNest)
		passes(t, ahead+nest(api.MaxOpen-1, "(", "1", ")")+" + "+strings.Replace(one, "@", "", 1)+"; }")
	}
	fails(t, ahead+nest(api.MaxOpen+1000, "(", "1", ")")+"; }", api.ErrNest, len(ahead)+api.MaxOpen-1)
}

// P8.2: brackets of all kinds are open together.
func TestOpenOfAllKinds(t *testing.T) {
	const f, e = "int f() {", "int f() { print "
	for _, c := range []struct{ ahead, one, bracket string }{
		{f, "{", "{"}, {e, "(", "("}, {e, "a[", "("}, {e, "f(", "("}, {e, "f(1, ", "("}, {e, "a[f((", "("}, {e, "-f(a[1] + (", "("}, {f + "if (", "a[", "("}, {f + "while (", "f(", "("}, {f + "f(", "f((", "("}, {f + "a[", "a[f(", "("}, {f + "a[1] = ", "a[", "("}, {f + "int x = ", "f(2, ", "("},
	} {
		text := c.ahead
		for opened(text+c.one) <= api.MaxOpen {
			text += c.one
		}
		text += repeat("(", api.MaxOpen-opened(text))
		fails(t, text, api.ErrEnd, len(text))
		fails(t, text+c.bracket, api.ErrNest, len(text))
		fails(t, text+c.bracket+" 5 5 }", api.ErrNest, len(text))
	}
}

// opened is how many brackets of a text aren't closed.
func opened(text string) int {
	n := 0
	for _, c := range text {
		switch {
		case strings.ContainsRune("([{", c):
			n++
		case strings.ContainsRune(")]}", c):
			n--
		}
	}
	return n
}

// P8.2: a bracket that may not stand where it does is ErrToken, however many are open.
func TestWrongBracketsBeyond(t *testing.T) {
	ahead := "int f() { print " + repeat("(", api.MaxOpen-1)
	for _, wrong := range []string{"{", "[", ")", "]", "}", ";", ",", "int", "*"} {
		fails(t, ahead+wrong, api.ErrToken, len(ahead))
	}
	fails(t, ahead+"1(", api.ErrToken, len(ahead)+1)
	fails(t, ahead+"1[", api.ErrToken, len(ahead)+1)
	fails(t, ahead+"1{", api.ErrToken, len(ahead)+1)
	fails(t, ahead+"x{", api.ErrToken, len(ahead)+1)
	fails(t, ahead+"x(", api.ErrNest, len(ahead)+1)
	fails(t, ahead+"x[", api.ErrNest, len(ahead)+1)
	fails(t, ahead+"read[", api.ErrToken, len(ahead)+4)
	blocks := "int f() " + repeat("{", api.MaxOpen)
	for _, wrong := range []string{"(", "[", "if {", "if [", "while {", "x{", "int x(", "int x[", "else {"} {
		at := len(wrong) - 1
		if strings.HasPrefix(wrong, "else") {
			at = 0
		}
		fails(t, blocks+wrong, api.ErrToken, len(blocks)+at)
	}
	for _, right := range []string{"{", "if (", "while(", "x(", "x[", "x = (", "int x = f("} {
		fails(t, blocks+right, api.ErrNest, len(blocks+right)-1)
	}
}

// P8.2: brackets that are closed aren't open.
func TestClosedBrackets(t *testing.T) {
	rest := "print " + nest(api.MaxOpen-1, "(", "1", ")") + ";"
	for _, one := range []string{"{}", "a[1] = 2;", "f(1, (2));", "x = a[1] + f(2) + (3) + read();", "if (1) { } else { }", "while (f(a[1])) { f(1); }"} {
		passes(t, "int f() {"+repeat(one, 600)+rest+"}")
		fails(t, "int f() {"+repeat(one, 600)+strings.Replace(rest, "1", "(1)", 1)+"}", api.ErrNest, 9+600*len(one)+6+api.MaxOpen-1)
	}
	passes(t, repeat("int a[3];", 60)+repeat("int f(int x) { }", 60)+"int f(int x) {"+rest+"}")
}

// P8.2: more globals, functions or parameters than there may be are told at the int of the first that is too many.
func TestCounts(t *testing.T) {
	for _, global := range []string{"int x;", "int a[2];", "int a\n[ 5 ] ; "} {
		full := repeat(global, api.MaxGlobals)
		passes(t, full)
		passes(t, full+repeat("int f() {}", api.MaxFuncs))
		for _, more := range []string{"int x;", "int a[1];", "int x; int y; 5 5", "int a[0];", "int a[x];", "int a[", "int x;}", "int /* */\n a ["} {
			fails(t, full+more, api.ErrBig, len(full))
			fails(t, full+" \n"+more, api.ErrBig, len(full)+2)
			fails(t, "int main() {}"+full+"int f() {}"+more, api.ErrBig, len(full)+23)
		}
	}
	full := repeat("int f() {}", api.MaxFuncs)
	passes(t, full)
	passes(t, full+"int x; int a[3];")
	for _, more := range []string{"int f() {}", "int f(", "int g(5", "int f(int x, int y) { @", "int f\n(int"} {
		more = strings.Replace(more, "@", "", 1)
		fails(t, full+more, api.ErrBig, len(full))
		fails(t, "int x; "+full+"int y; "+more, api.ErrBig, len(full)+14)
	}
	for text, err := range map[string]api.Errno{
		"int": api.ErrEnd, "int f": api.ErrEnd, "int f ": api.ErrEnd, "int f //(": api.ErrEnd, "@5": api.ErrToken, "int @5": api.ErrToken, "int f @5": api.ErrToken, "int f @{": api.ErrToken, "int f @= 1": api.ErrToken, "int @int": api.ErrToken, "int f @)": api.ErrToken,
	} {
		text = repeat("int x;", api.MaxGlobals) + full + text
		if err == api.ErrEnd {
			text += "@"
		}
		marked(t, text, err)
	}
}

// P8.2: a parameter too many is told at its int, if an int stands there, whatever stands behind.
func TestCountOfParams(t *testing.T) {
	seven := "int f(" + repeat("int x, ", api.MaxParams-1)
	passes(t, seven+"int x) {}")
	passes(t, repeat("int f("+repeat("int x, ", api.MaxParams-1)+"int x) {}", api.MaxFuncs))
	for _, more := range []string{"@int x) {}", "@int", "@int int", "@int 5", "@int x, int y, int z) { }", "@int x"} {
		marked(t, seven+"int x, "+more, api.ErrBig)
		marked(t, "int g(int x) {} int y; "+seven+"int x,\n"+more, api.ErrBig)
	}
	for _, wrong := range []string{"@)", "@x", "@5", "@,"} {
		marked(t, seven+"int x, "+wrong, api.ErrToken)
	}
	marked(t, seven+"int x, @", api.ErrEnd)
	marked(t, seven+"int x @int y", api.ErrToken)
}

// P8.2: an array's number, if a number stands there, is from 1 to MaxWords.
func TestSizes(t *testing.T) {
	for _, n := range []int{1, 2, 100, api.MaxWords - 1, api.MaxWords} {
		parses(t, fmt.Sprintf("int a[%d];", n), prog(api.Global{Name: "a", Size: n}))
	}
	for _, n := range []int{0, api.MaxWords + 1, 5000, 1 << 16, 1<<31 - 1} {
		for _, behind := range []string{"];", "]", "", " ) 5", "]; int b[0];"} {
			fails(t, fmt.Sprintf("int x;\nint a [ %d%s", n, behind), api.ErrSize, 15)
		}
	}
	passes(t, "int f() { a[0] = a[4097]; x = 5000; }")
}

// P8.2: a function's Depth up to MaxNest.
func TestNesting(t *testing.T) {
	for _, c := range []struct {
		text func(n int) string // statements with a Depth of n
		bare bool               // no brackets: so deep as the text has room
	}{
		{func(n int) string { return nest(n, "{", "", "}") }, false},
		{func(n int) string { return nest(n-1, "{", ";", "}") }, false},
		{func(n int) string { return nest(n-2, "{", "return 1;", "}") }, false},
		{func(n int) string { return repeat("if (1) ", n-1) + ";" }, true},
		{func(n int) string { return repeat("if (1) ; else ", n-1) + ";" }, true},
		{func(n int) string { return repeat("while (1) ", n-1) + "break;" }, true},
		{func(n int) string { return repeat("while (1) ", n-1) + "{ }" }, true},
		{func(n int) string { return "print " + repeat("-", n-2) + "1;" }, true},
		{func(n int) string { return "x = " + repeat("1 + ", n-2) + "1;" }, true},
		{func(n int) string { return "x = " + repeat("1 + (", n-2) + "1" + repeat(")", n-2) + ";" }, false},
		{func(n int) string {
			return "x = " + repeat("~(!((", (n-2)/2) + repeat("-", n%2) + "1" + repeat(")))", (n-2)/2) + ";"
		}, false},
		{func(n int) string { return nest(n-1, "f(", "1", ")") + ";" }, false},
		{func(n int) string { return nest(n-1, "a[", "1", "]") + " = 2;" }, false},
		{func(n int) string { return "a[1] = " + nest(n-2, "a[", "1", "]") + ";" }, false},
		{func(n int) string { return "if (" + repeat("!", n-2) + "x) ; else ;" }, true},
		{func(n int) string { return "while (1) if (2) print " + repeat("!", n-4) + "x;" }, true},
		{func(n int) string {
			return "int x = f(1, 2, " + repeat("- - ", (n-3)/2) + repeat("-", (n-3)%2) + "x, 3);"
		}, true},
	} {
		deeps := []int{api.MaxNest + 1, api.MaxNest + 2, 200}
		if c.bare {
			deeps = append(deeps, 2000)
		}
		for _, n := range []int{4, 5, api.MaxNest - 1, api.MaxNest} {
			passes(t, "int f() { "+c.text(n)+" }")
			passes(t, "int f() { ; "+c.text(n)+c.text(n)+" x = 1; }")
			if p, _, _ := Parse("int f() { " + c.text(n) + " }"); Depth(p.Funcs[0]) != n {
				t.Errorf("the Depth of %q is %d; want %d", c.text(n), Depth(p.Funcs[0]), n)
			}
		}
		for _, n := range deeps {
			body := c.text(n)
			fails(t, "int f() { "+body+" }", api.ErrNest, 0)
			marked(t, "int x; int f() {}\n@int g(int x) { ; "+body+" ; } int h() {}", api.ErrNest)
			marked(t, "int f() {} @int g() {"+body+"} 5 5", api.ErrNest)
			marked(t, "@int f() {"+body+"} int g() { "+body+" }", api.ErrNest)
			marked(t, "int f() {"+body+" @", api.ErrEnd)
			marked(t, "int f() {"+body+" @= }", api.ErrToken)
			marked(t, "int f() {"+body+"x @1; }", api.ErrToken)
		}
	}
}

// P8.2: texts that are as long as may be are read, however deep.
func TestLongTexts(t *testing.T) {
	fill := func(ahead, one, behind string) string {
		return ahead + repeat(one, (api.MaxText-len(ahead+behind))/len(one)) + behind
	}
	passes(t, fill("int f() {", "x=1;", "}"))
	passes(t, fill("int f() {", ";", "}"))
	passes(t, fill("int f() { f(1", ",1", "); }"))
	passes(t, fill("int f() {", "if(1);else ;", "}"))
	for _, text := range []string{
		fill("int f() { print ", "-", "1; }"), fill("int f() { print 1", "+1", "; }"), fill("int f() {", "if(1)", ";}"), fill("int f() {", "if(1);else ", ";}"), fill("int f() {", "while(1)", ";}"),
	} {
		fails(t, text, api.ErrNest, 0)
		fails(t, text[:len(text)-1], api.ErrEnd, len(text)-1)
	}
	fails(t, fill("int f() ", "{", "}"), api.ErrNest, 8+api.MaxOpen)
	fails(t, fill("int f(", "int x,", ""), api.ErrBig, 6+6*api.MaxParams)
}
