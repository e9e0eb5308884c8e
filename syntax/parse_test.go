package syntax

import (
	"fmt"
	"strings"
	"testing"

	"brazier/api"
)

// The chapter's examples.
func TestExamples(t *testing.T) {
	const text = "int main() { print 1 + 2 * 3; }"
	parses(t, text, mainOf(sPrint(eBin(api.Add, eNum(1), eBin(api.Mul, eNum(2), eNum(3))))))
	p, _, _ := Parse(text)
	if s := Print(p); s != "int main() {\n\tprint 1 + (2 * 3);\n}\n" {
		t.Errorf("%q", s)
	}
	fails(t, "int main() { x 1; }", api.ErrToken, 15)
	fails(t, "int a[0];", api.ErrSize, 6)
}

// P8.1: programs of no functions, or of nothing.
func TestGlobals(t *testing.T) {
	for _, s := range []string{"", " ", "\n\n", "// int x", "/* int x; */ \t"} {
		parses(t, s, api.Prog{})
	}
	parses(t, "int x;", prog(api.Global{Name: "x"}))
	parses(t, "int a[1];", prog(api.Global{Name: "a", Size: 1}))
	parses(t, "int a[4096];", prog(api.Global{Name: "a", Size: 4096}))
	parses(t, "int\n_[ /**/ 17 ] ;int x;", prog(api.Global{Name: "_", Size: 17}, api.Global{Name: "x"}))
	parses(t, "int x; int x; int x[2];", prog(api.Global{Name: "x"}, api.Global{Name: "x"}, api.Global{Name: "x", Size: 2}))
}

// P8.1: globals and functions in their order, each among their own.
func TestOrder(t *testing.T) {
	parses(t, "int f() {} int x; int g() {} int a[3]; int f() {} int b;", prog(
		api.Global{Name: "x"}, api.Global{Name: "a", Size: 3}, api.Global{Name: "b"}, fn("f", nil), fn("g", nil), fn("f", nil)))
}

// P8.1: functions with parameters, none to eight.
func TestParams(t *testing.T) {
	parses(t, "int f() {}", prog(fn("f", nil)))
	parses(t, "int f(int x) {}", prog(fn("f", []string{"x"})))
	parses(t, "int f(int x, int y) { return x; }", prog(fn("f", []string{"x", "y"}, sReturn(eVar("x")))))
	parses(t, "int f(int x,int x,int f){}", prog(fn("f", []string{"x", "x", "f"})))
	parses(t, "int f(int a, int b, int c, int d, int e, int f, int g, int h) {}", prog(fn("f", strings.Fields("a b c d e f g h"))))
}

// P8.1: each statement.
func TestStatements(t *testing.T) {
	one := eNum(1)
	for text, want := range map[string]api.Stmt{
		"{}":                          sBlock(),
		";":                           sBlock(),
		"{;}":                         sBlock(sBlock()),
		"{;{};}":                      sBlock(sBlock(), sBlock(), sBlock()),
		"{ x = 1; break; }":           sBlock(sSet("x", one), sBreak()),
		"int x;":                      sVar("x"),
		"int x = 1;":                  sVar("x", one),
		"x = 1;":                      sSet("x", one),
		"x = y == z;":                 sSet("x", eBin(api.Eq, eVar("y"), eVar("z"))),
		"a[x] = 1;":                   sPut("a", eVar("x"), one),
		"a[a[1]] = a[2] + 1;":         sPut("a", eIndex("a", one), eBin(api.Add, eIndex("a", eNum(2)), one)),
		"f();":                        sCall("f"),
		"f(1);":                       sCall("f", one),
		"f(x, 1, g(2), read());":      sCall("f", eVar("x"), one, eCall("g", eNum(2)), eRead()),
		"if (1) ;":                    sIf(one, sBlock()),
		"if (1) x = 1; else ;":        sIf(one, sSet("x", one), sBlock()),
		"if (1) int x; else int y;":   sIf(one, sVar("x"), sVar("y")),
		"while (1) ;":                 sWhile(one, sBlock()),
		"while (x) { continue; }":     sWhile(eVar("x"), sBlock(sContinue())),
		"while (1) int x = 1;":        sWhile(one, sVar("x", one)),
		"break;":                      sBreak(),
		"continue;":                   sContinue(),
		"return 1;":                   sReturn(one),
		"return -1;":                  sReturn(eUn(api.Neg, one)),
		"return (1);":                 sReturn(one),
		"print 1;":                    sPrint(one),
		"print (1) + 1;":              sPrint(eBin(api.Add, one, one)),
		"print read();":               sPrint(eRead()),
		"f(1,1,1,1,1,1,1,1,1,1,1,1);": sCall("f", one, one, one, one, one, one, one, one, one, one, one, one),
	} {
		parses(t, "int main(){"+text+"}", mainOf(want))
		parses(t, "int main ( ) { ; "+text+" "+text+"\n}\n", mainOf(sBlock(), want, want))
		parses(t, "int main() { while (x) "+text+" return 1; }", mainOf(sWhile(eVar("x"), want), sReturn(one)))
	}
}

// P8.1: else belongs to the nearest if.
func TestElse(t *testing.T) {
	a, b, c := eVar("a"), eVar("b"), eVar("c")
	x, y := sSet("x", eNum(1)), sSet("y", eNum(2))
	const X, Y = " x = 1; ", " y = 2; "
	for text, want := range map[string]api.Stmt{
		"if (a)" + X + "else" + Y:                               sIf(a, x, y),
		"if (a) if (b)" + X + "else" + Y:                        sIf(a, sIf(b, x, y)),
		"if (a) { if (b)" + X + "} else" + Y:                    sIf(a, sBlock(sIf(b, x)), y),
		"if (a) if (b)" + X + "else" + Y + "else ;":             sIf(a, sIf(b, x, y), sBlock()),
		"if (a)" + X + "else if (b)" + Y:                        sIf(a, x, sIf(b, y)),
		"if (a)" + X + "else if (b)" + Y + "else ;":             sIf(a, x, sIf(b, y, sBlock())),
		"if (a) while (b)" + X + "else" + Y:                     sIf(a, sWhile(b, x), y),
		"if (a) while (b) if (c)" + X + "else" + Y:              sIf(a, sWhile(b, sIf(c, x, y))),
		"while (a) if (b)" + X + "else" + Y:                     sWhile(a, sIf(b, x, y)),
		"if (a)" + X + "else while (b) if (c) ; else" + Y:       sIf(a, x, sWhile(b, sIf(c, sBlock(), y))),
		"if (a) if (b) ; else if (c)" + X + "else" + Y:          sIf(a, sIf(b, sBlock(), sIf(c, x, y))),
		"if (a) if (b) ; else if (c) ; else" + X + "else" + Y:   sIf(a, sIf(b, sBlock(), sIf(c, sBlock(), x)), y),
		"if (a) if (b) if (c)" + X + "else" + Y + "else ;":      sIf(a, sIf(b, sIf(c, x, y), sBlock())),
		"if (a) { } else { if (b)" + X + "else" + Y + "}":       sIf(a, sBlock(), sBlock(sIf(b, x, y))),
		"if (a) while (b) while (c)" + X + "else while (c)" + Y: sIf(a, sWhile(b, sWhile(c, x)), sWhile(c, y)),
	} {
		parses(t, "int main() {"+text+"}", mainOf(want))
	}
}

// P8.1: each primary, and what stands in brackets is just that.
func TestPrimaries(t *testing.T) {
	for text, want := range map[string]api.Expr{
		"0":                  eNum(0),
		"2147483647":         eNum(2147483647),
		"x":                  eVar("x"),
		"main":               eVar("main"),
		"a[1]":               eIndex("a", eNum(1)),
		"a [ a [ x ] ]":      eIndex("a", eIndex("a", eVar("x"))),
		"a[1 + 1]":           eIndex("a", eBin(api.Add, eNum(1), eNum(1))),
		"f()":                eCall("f"),
		"f(1)":               eCall("f", eNum(1)),
		"f(1, f(), a[2])":    eCall("f", eNum(1), eCall("f"), eIndex("a", eNum(2))),
		"f(1 || 2, 3 && 4)":  eCall("f", eBin(api.OrOr, eNum(1), eNum(2)), eBin(api.AndAnd, eNum(3), eNum(4))),
		"read()":             eRead(),
		"read ( )":           eRead(),
		"(x)":                eVar("x"),
		"((((x))))":          eVar("x"),
		"-1":                 eUn(api.Neg, eNum(1)),
		"!x":                 eUn(api.Not, eVar("x")),
		"~x":                 eUn(api.Inv, eVar("x")),
		"-!~-x":              eUn(api.Neg, eUn(api.Not, eUn(api.Inv, eUn(api.Neg, eVar("x"))))),
		"--1":                eUn(api.Neg, eUn(api.Neg, eNum(1))),
		"-(-1)":              eUn(api.Neg, eUn(api.Neg, eNum(1))),
		"!(1 + 2)":           eUn(api.Not, eBin(api.Add, eNum(1), eNum(2))),
		"-a[1]":              eUn(api.Neg, eIndex("a", eNum(1))),
		"~f(1)":              eUn(api.Inv, eCall("f", eNum(1))),
		"!read()":            eUn(api.Not, eRead()),
		"-2147483647 - 1":    eBin(api.Sub, eUn(api.Neg, eNum(2147483647)), eNum(1)),
		"1 - -1":             eBin(api.Sub, eNum(1), eUn(api.Neg, eNum(1))),
		"1--1":               eBin(api.Sub, eNum(1), eUn(api.Neg, eNum(1))),
		"1---1":              eBin(api.Sub, eNum(1), eUn(api.Neg, eUn(api.Neg, eNum(1)))),
		"(1) - (2)":          eBin(api.Sub, eNum(1), eNum(2)),
		"a[read()] * read()": eBin(api.Mul, eIndex("a", eRead()), eRead()),
	} {
		parses(t, "int main() { print "+text+"; }", mainOf(sPrint(want)))
	}
}

// Operators of two as the chapter lists them: a level a line, the first binds least.
const levels = `||
&&
|
^
&
== !=
< <= > >=
<< >>
+ -
* / %`

// signs are the operators' signs in the order of their numbers, of two and of one.
var signs = strings.Fields("+ - * / % << >> & | ^ < <= > >= == != && || - ! ~")

// binary is an operator of two.
type binary struct {
	op, level int
	sign      string
}

func binaries() []binary {
	var out []binary
	for level, line := range strings.Split(levels, "\n") {
		for _, sign := range strings.Fields(line) {
			for i := api.OrOr; i >= api.Add; i-- {
				if signs[i-1] == sign {
					out = append(out, binary{i, level + 1, sign})
				}
			}
		}
	}
	return out
}

// P8.1: of each two operators the one binds first that the chapter says; of one level the left one; brackets go ahead.
func TestLevels(t *testing.T) {
	all := binaries()
	if len(all) != 18 {
		t.Fatal(all)
	}
	x, y, z := eVar("x"), eVar("y"), eVar("z")
	for _, a := range all {
		for _, b := range all {
			left := eBin(b.op, eBin(a.op, x, y), z)
			right := eBin(a.op, x, eBin(b.op, y, z))
			want := left
			if b.level > a.level {
				want = right
			}
			for text, want := range map[string]api.Expr{
				"x %s y %s z": want, "(x %s y) %s z": left, "x %s (y %s z)": right, "x %s y %s (z)": want, "((x) %s (y)) %s z": left,
			} {
				parses(t, "int main() { print "+fmt.Sprintf(text, a.sign, b.sign)+"; }", mainOf(sPrint(want)))
			}
		}
	}
}

// P8.1: operators of one bind before those of two.
func TestUnaries(t *testing.T) {
	x, y := eVar("x"), eVar("y")
	for un := api.Neg; un <= api.Inv; un++ {
		sign := signs[un-1]
		for _, b := range binaries() {
			for text, want := range map[string]api.Expr{
				sign + "x " + b.sign + " y":            eBin(b.op, eUn(un, x), y),
				"x " + b.sign + sign + "y":             eBin(b.op, x, eUn(un, y)),
				sign + "(x " + b.sign + " y)":          eUn(un, eBin(b.op, x, y)),
				sign + sign + "x " + b.sign + " y":     eBin(b.op, eUn(un, eUn(un, x)), y),
				sign + "x[x] " + b.sign + sign + "y()": eBin(b.op, eUn(un, eIndex("x", x)), eUn(un, eCall("y"))),
			} {
				parses(t, "int main() { print "+text+"; }", mainOf(sPrint(want)))
			}
		}
	}
}

// P8.2: layer 7's error is ahead of all else, wherever it is.
func TestLexersErrors(t *testing.T) {
	fails(t, "@", api.ErrByte, 0)
	fails(t, "int main() { x 1; } $", api.ErrByte, 20)
	fails(t, "5 5 5 /*", api.ErrEnd, 8)
	fails(t, "int a[0]; int b[2147483648];", api.ErrNum, 16)
	fails(t, "int a[01];", api.ErrNum, 6)
	fails(t, "] "+strings.Repeat("x", 65), api.ErrBig, 2)
	fails(t, "int f() {"+strings.Repeat("-", 100)+"1; } é", api.ErrByte, 114)
	fails(t, "}"+strings.Repeat(" ", api.MaxText), api.ErrBig, 0)
	fails(t, strings.Repeat(" ", api.MaxText+1), api.ErrBig, 0)
	parses(t, strings.Repeat(" ", api.MaxText), api.Prog{})
	fails(t, strings.Repeat(" ", api.MaxText-1)+"}", api.ErrToken, api.MaxText-1)
}

// P8.2: ErrToken, at the first token with which no program goes on.
func TestWrongTokens(t *testing.T) {
	for _, text := range []string{
		"@x", "@;", "@1", "@main() {}", "@void f() {}", "@{ }", "@if (1) ;", "@}", "@read();", "int x; @; int y", "int x; @x = 1;", "int f() {} @; int x;", "int f() {} @}", "int x; @1 1",
		"int @int", "int @1;", "int @;", "int @(", "int @read;", "int @print() {}", "int @[1] a;",
		"int x @= 1;", "int x @, y;", "int x @x", "int x @int y;", "int x @{ }", "int x @)", "int x @1", "int x @]",
		"int a[@];", "int a[@x];", "int a[@-1];", "int a[@(1)];", "int a[@int];", "int a[1 @+ 1];", "int a[1 @1];", "int a[1@;", "int a[1@)", "int a[1]@[1];", "int a[1] @= 1;", "int a[1]@,b;", "int a[1] @{", "int a[5] @int b;",
		"int f(@x) {}", "int f(@1) {}", "int f(@,) {}", "int f(@;", "int f(@(", "int f(int @) {}", "int f(int @int) {}", "int f(int @1) {}", "int f(int x@[1]) {}", "int f(int x@;", "int f(int x @= 1) {}", "int f(int x @int y) {}", "int f(int x, @) {}", "int f(int x, @y) {}", "int f(int x,@, int y) {}", "int f(int x) @;", "int f()@; int g() {}", "int f() @int x; {}", "int f() @return 1;", "int f() @= 1", "int f(@{",
		"int f() { } @{ }", "int f() { @) }", "int f() { @] }", "int f() { @1; }", "int f() { @(x) = 1; }", "int f() { @-x; }", "int f() { @+ }", "int f() { @= }", "int f() { @, }", "int f() { @else ; }", "int f() { @read(); }", "int f() { @[1] = 2; }",
		"int f() { x@; }", "int f() { x @1; }", "int f() { x @y; }", "int f() { x @== 1; }", "int f() { x @+ 1; }", "int f() { x = @; }", "int f() { x = @= 1; }", "int f() { x = 1 @= 1; }", "int f() { x = 1@, y = 2; }", "int f() { x = 1 @}", "int f() { x = @int; }", "int f() { x = y @= 1; }", "int f() { x@, y = 1; }", "int f() { x @int y; }",
		"int f() { a[@] = 1; }", "int f() { a[1@, 2] = 1; }", "int f() { a[1]@; }", "int f() { a[1] @+ 1; }", "int f() { a[1]@[2] = 3; }", "int f() { a[1@) = 1; }", "int f() { a[1] = @; }", "int f() { a[1] @== 1; }",
		"int f() { g(@,); }", "int f() { g(1,@); }", "int f() { g(1 @2); }", "int f() { g(1) @}", "int f() { g() @= 1; }", "int f() { g()@(); }", "int f() { g()@[1] = 1; }", "int f() { g() @+ 1; }", "int f() { g(@int x); }", "int f() { g(@;", "int f() { g(1@]; }",
		"int f() { int @= 1; }", "int f() { int @; }", "int f() { int x@[2]; }", "int f() { int x @, y; }", "int f() { int x @(int y) {} }", "int f() { int x @1; }", "int f() { int x = @; }", "int f() { int x = 1 @int y; }", "int f() { int @int x; }", "int f() { int x @== 1; }",
		"int f() { if @x ; }", "int f() { if (@) ; }", "int f() { if (x @; }", "int f() { if (x@, y) ; }", "int f() { if (x) @}", "int f() { if (x) @else ; }", "int f() { if (x) ; else @}", "int f() { if (x) ; else @else ; }", "int f() { if (x) ; else ; @else ; }", "int f() { if (x) ; ; @else ; }", "int f() { if (x) { } ; @else ; }", "int f() { if @{ }", "int f() { if (@int x = 1) ; }", "int f() { if (x @= 1) ; }", "int f() { if (x) @1; }", "int f() { if (x) @) ; }",
		"int f() { while @x ; }", "int f() { while (@) ; }", "int f() { while (x) @}", "int f() { while (x) ; @else ; }", "int f() { while (x @; x) ; }", "int f() { while (x) @else ; }", "int f() { while @; }",
		"int f() { break @1; }", "int f() { break @}", "int f() { break @x; }", "int f() { continue @break; }", "int f() { continue @(1); }", "int f() { continue @}",
		"int f() { return @; }", "int f() { return @}", "int f() { return 1 @}", "int f() { return 1@, 2; }", "int f() { return @return 1; }", "int f() { return @int; }", "int f() { return x @= 1; }",
		"int f() { print @; }", "int f() { print @print 1; }", "int f() { print 1 @1; }", "int f() { print 1 @x; }", "int f() { print (1@; }", "int f() { print (@); }", "int f() { print (1@, 2); }", "int f() { print 1@); }", "int f() { print (1@]; }", "int f() { print @{ 1 }; }",
		"int f() { print 1 + @; }", "int f() { print @+ 1; }", "int f() { print 1 @! 1; }", "int f() { print 1 @~ 1; }", "int f() { print 1 + @* 1; }", "int f() { print 1 < @= 1; }", "int f() { print 1 & @& 1; }", "int f() { print -@; }", "int f() { print !@); }", "int f() { print - @+ 1; }", "int f() { print @=1; }", "int f() { print 1 - @/ 1; }", "int f() { print @* 1; }", "int f() { print @&& 1; }",
		"int f() { print 1@[1]; }", "int f() { print 1@(1); }", "int f() { print (a)@[1]; }", "int f() { print (g)@(1); }", "int f() { print a[1]@[1]; }", "int f() { print a[1]@(1); }", "int f() { print g(1)@[1]; }", "int f() { print g()@(); }", "int f() { print a[@]; }", "int f() { print a[1@; }", "int f() { print a[1@, 1]; }", "int f() { print g(1,@); }", "int f() { print g(@,); }",
		"int f() { print read@; }", "int f() { print read @+ 1; }", "int f() { print read(@1); }", "int f() { print read@[1]; }", "int f() { print read()@(); }", "int f() { print read()@[1]; }", "int f() { @read = 1; }", "int f() { print @if; }", "int f() { print @else; }", "int f() { print 1 + @while; }", "int f() { print @break; }",
	} {
		marked(t, text, api.ErrToken)
	}
}

// P8.2: ErrEnd at the text's end, behind blanks and comments, if the tokens end ahead of the program's.
func TestEnds(t *testing.T) {
	whole := "int g ; int a [ 3 ] ; int f ( int x , int y ) { int z = x + 1 ; { ; } if ( ! x ) f ( x , y ) ; else while ( a [ 1 ] ) break ; a [ y ] = - ( z ) * read ( ) ; print 1 ; return f ( 1 , 2 ) ; }"
	tokens := strings.Fields(whole)
	ends := map[int]bool{0: true, 3: true, 9: true, len(tokens): true} // where a program is whole
	for n := range len(tokens) + 1 {
		for _, behind := range []string{"", "\n", " // more", "\n/* more */\n "} {
			text := strings.Join(tokens[:n], " ") + behind
			if ends[n] {
				if p, err, at := Parse(text); err != api.OK || at != (api.Place{}) {
					t.Errorf("Parse(%q) = %v, %d, %v", text, p, err, at)
				}
			} else {
				fails(t, text, api.ErrEnd, len(text))
			}
		}
	}
	for _, text := range []string{"int", "int x", "int a[", "int a[1", "int a[1]", "int f(", "int f(int", "int f(int x", "int f(int x,", "int f()", "int f() {", "int f() { if (x) ; else", "int f() { {}", "int f() { print read(", "int f() { print ((1)"} {
		fails(t, text, api.ErrEnd, len(text))
	}
}

// Rules 4 and 6: an answer shares nothing with another one, and asked again it's the same.
func TestAgain(t *testing.T) {
	const text = "int a[3]; int f(int x) { if (x) a[x] = f(x - 1, 2); else { print -x; } }"
	p, _, _ := Parse(text)
	kept := cloneProg(p)
	p.Globals[0] = api.Global{}
	p.Funcs[0].Params[0] = ""
	p.Funcs[0].Body[0].Kids[0].Exprs[1].Kids[0].Kids[0] = api.Expr{}
	p.Funcs[0].Body[0].Kids[1].Kids[0] = api.Stmt{}
	parses(t, text, kept)
}
