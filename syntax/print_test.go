package syntax

import (
	"fmt"
	"math"
	"strings"
	"testing"

	"brazier/api"
)

// P8.5: globals.
func TestPrintGlobal(t *testing.T) {
	for _, c := range []struct {
		g    api.Global
		want string
	}{
		{api.Global{Name: "x"}, "int x;\n"},
		{api.Global{Name: "a", Size: 1}, "int a[1];\n"},
		{api.Global{Name: "a", Size: 4096}, "int a[4096];\n"},
		{api.Global{Name: "a", Size: 1000000}, "int a[1000000];\n"},
		{api.Global{Name: "a", Size: -1}, "int a[-1];\n"},
		{api.Global{Name: "a", Size: math.MaxInt32}, "int a[2147483647];\n"},
		{api.Global{Name: "a", Size: math.MaxInt32 + 1}, "int a[-2147483648];\n"},
		{api.Global{Name: "a", Size: 1<<32 + 7}, "int a[7];\n"},
		{api.Global{Name: "a", Size: 1 << 32}, "int a[0];\n"},
		{api.Global{Name: "a", Size: math.MaxInt}, "int a[-1];\n"},
		{api.Global{}, "int ;\n"},
		{api.Global{Size: 2}, "int [2];\n"},
		{api.Global{Name: "1 x\n"}, "int 1 x\n;\n"},
	} {
		if s := PrintGlobal(c.g); s != c.want {
			t.Errorf("PrintGlobal(%v) = %q", c.g, s)
		}
	}
}

// P8.5: expressions that may be.
func TestPrintExpr(t *testing.T) {
	x, y, one := eVar("x"), eVar("y"), eNum(1)
	for want, e := range map[string]api.Expr{
		"0":                 eNum(0),
		"2147483647":        eNum(math.MaxInt32),
		"x":                 x,
		"a[1]":              eIndex("a", one),
		"a[x + 1]":          eIndex("a", eBin(api.Add, x, one)),
		"a[-x]":             eIndex("a", eUn(api.Neg, x)),
		"a[a[x]]":           eIndex("a", eIndex("a", x)),
		"f()":               eCall("f"),
		"f(1)":              eCall("f", one),
		"f(x + 1, -1, g())": eCall("f", eBin(api.Add, x, one), eUn(api.Neg, one), eCall("g")),
		"read()":            eRead(),
		"-1":                eUn(api.Neg, one),
		"!x":                eUn(api.Not, x),
		"~a[1]":             eUn(api.Inv, eIndex("a", one)),
		"-f(x)":             eUn(api.Neg, eCall("f", x)),
		"!read()":           eUn(api.Not, eRead()),
		"-(-1)":             eUn(api.Neg, eUn(api.Neg, one)),
		"!(~(-x))":          eUn(api.Not, eUn(api.Inv, eUn(api.Neg, x))),
		"-(x + y)":          eUn(api.Neg, eBin(api.Add, x, y)),
		"x + y":             eBin(api.Add, x, y),
		"(x + y) + 1":       eBin(api.Add, eBin(api.Add, x, y), one),
		"x + (y + 1)":       eBin(api.Add, x, eBin(api.Add, y, one)),
		"1 + (2 * 3)":       eBin(api.Add, one, eBin(api.Mul, eNum(2), eNum(3))),
		"(-x) - (-y)":       eBin(api.Sub, eUn(api.Neg, x), eUn(api.Neg, y)),
		"a[1] < f(x, y)":    eBin(api.Lt, eIndex("a", one), eCall("f", x, y)),
		"(!x) && (y || 1)":  eBin(api.AndAnd, eUn(api.Not, x), eBin(api.OrOr, y, one)),
	} {
		if s := PrintExpr(e); s != want {
			t.Errorf("PrintExpr(%v) = %q; want %q", e, s, want)
		}
	}
	for op := api.Add; op <= api.OrOr; op++ {
		if s, want := PrintExpr(eBin(op, x, y)), "x "+signs[op-1]+" y"; s != want {
			t.Errorf("%q; want %q", s, want)
		}
	}
	for op := api.Neg; op <= api.Inv; op++ {
		if s, want := PrintExpr(eUn(op, x)), signs[op-1]+"x"; s != want {
			t.Errorf("%q; want %q", s, want)
		}
	}
}

// P8.5: what else an expression may be: kids that aren't there are nothing, those too many aren't printed, nor is what a kind doesn't have.
func TestPrintOtherExprs(t *testing.T) {
	x, y, z := eVar("x"), eVar("y"), eVar("z")
	full := api.Expr{Num: 7, Op: api.Mul, Name: "n", Kids: []api.Expr{x, y, z}}
	of := func(kind int) api.Expr {
		e := full
		e.Kind = kind
		return e
	}
	for _, c := range []struct {
		e    api.Expr
		want string
	}{
		{eNum(-1), "-1"}, {eNum(math.MinInt32), "-2147483648"},
		{of(api.ExNum), "7"}, {of(api.ExVar), "n"}, {of(api.ExIndex), "n[x]"}, {of(api.ExCall), "n(x, y, z)"}, {of(api.ExRead), "read()"}, {of(api.ExUn), "*x"}, {of(api.ExBin), "x * y"},
		{of(0), ""}, {of(8), ""}, {of(-1), ""}, {of(math.MaxInt), ""}, {of(1 << 32), ""}, {of(1<<32 + 1), ""}, {api.Expr{}, ""},
		{eVar(""), ""}, {eVar("1 + \n"), "1 + \n"},
		{eIndex("a"), "a[]"}, {eIndex(""), "[]"}, {eCall(""), "()"}, {eIndex("a", api.Expr{}), "a[]"},
		{eCall("f", api.Expr{}), "f()"}, {eCall("f", api.Expr{}, x, api.Expr{}), "f(, x, )"},
		{eUn(api.Neg), "-"}, {eUn(api.Neg, api.Expr{}), "-"}, {eUn(api.Not, x, y), "!x"}, {eUn(0, x), "x"}, {eUn(99, x), "x"}, {eUn(0), ""}, {eUn(api.OrOr, x), "||x"},
		{eBin(api.Add), " + "}, {eBin(api.Add, x), "x + "}, {eBin(api.Add, x, y, z), "x + y"}, {eBin(0, x, y), "x  y"}, {eBin(-5), "  "}, {eBin(api.Inv, x, y), "x ~ y"}, {eBin(api.Add, api.Expr{}, x), " + x"},
		{eUn(api.Neg, eUn(0)), "-()"}, {eUn(api.Neg, eUn(0, x)), "-(x)"}, {eUn(99, eBin(99)), "(  )"}, {eBin(api.Add, eUn(api.Neg), eBin(api.Sub)), "(-) + ( - )"},
		{eBin(api.Add, of(0), of(api.ExCall)), " + n(x, y, z)"}, {eIndex("a", eUn(0)), "a[]"}, {eBin(api.Add, x, y, eUn(api.Neg, x)), "x + y"},
	} {
		if s := PrintExpr(c.e); s != c.want {
			t.Errorf("PrintExpr(%+v) = %q; want %q", c.e, s, c.want)
		}
	}
}

// printsBody tells what PrintFunc writes between a function's first and last line.
func printsBody(t *testing.T, want string, body ...api.Stmt) {
	t.Helper()
	if s := PrintFunc(fn("f", nil, body...)); s != "int f() {\n"+want+"}\n" {
		t.Errorf("PrintFunc of %+v = %q; want %q within", body, s, want)
	}
}

// P8.5: each statement that may be.
func TestPrintStatements(t *testing.T) {
	x, one := eVar("x"), eNum(1)
	sum := eBin(api.Add, eBin(api.Mul, x, x), one)
	for want, s := range map[string]api.Stmt{
		"int x;":                   sVar("x"),
		"int x = (x * x) + 1;":     sVar("x", sum),
		"x = 1;":                   sSet("x", one),
		"a[(x * x) + 1] = -x;":     sPut("a", sum, eUn(api.Neg, x)),
		"f();":                     sCall("f"),
		"f(1);":                    sCall("f", one),
		"f(x, (x * x) + 1, a[1]);": sCall("f", x, sum, eIndex("a", one)),
		"break;":                   sBreak(),
		"continue;":                sContinue(),
		"return x;":                sReturn(x),
		"print read();":            sPrint(eRead()),
	} {
		printsBody(t, "\t"+want+"\n", s)
		printsBody(t, "\t"+want+"\n\t"+want+"\n", s, s)
		printsBody(t, "\t{\n\t\t"+want+"\n\t}\n", sBlock(s))
		printsBody(t, "\twhile (x)\n\t\tif (1)\n\t\t\t"+want+"\n", sWhile(x, sIf(one, s)))
	}
	printsBody(t, "")
	printsBody(t, "\t{\n\t}\n", sBlock())
	printsBody(t, "\t{\n\t\t{\n\t\t}\n\t\tbreak;\n\t\t{\n\t\t\tbreak;\n\t\t}\n\t}\n", sBlock(sBlock(), sBreak(), sBlock(sBreak())))
	printsBody(t, "\tif ((x * x) + 1)\n\t\tbreak;\n", sIf(sum, sBreak()))
	printsBody(t, "\tif (x)\n\t\tbreak;\n\telse\n\t\tcontinue;\n", sIf(x, sBreak(), sContinue()))
	printsBody(t, "\tif (x)\n\t\t{\n\t\t\tbreak;\n\t\t}\n\telse\n\t\tif (1)\n\t\t\t{\n\t\t\t}\n\t\telse\n\t\t\t{\n\t\t\t}\n", sIf(x, sBlock(sBreak()), sIf(one, sBlock(), sBlock())))
	printsBody(t, "\twhile ((x * x) + 1)\n\t\t{\n\t\t\tbreak;\n\t\t}\n\tbreak;\n", sWhile(sum, sBlock(sBreak())), sBreak())
}

// P8.5: what else a statement may be.
func TestPrintOtherStatements(t *testing.T) {
	x, y, z := eVar("x"), eVar("y"), eVar("z")
	kids := []api.Stmt{sBreak(), sContinue(), sReturn(x)}
	of := func(kind int) api.Stmt {
		return api.Stmt{Kind: kind, Name: "n", Exprs: []api.Expr{x, y, z}, Kids: kids}
	}
	for _, c := range []struct {
		s    api.Stmt
		want string
	}{
		{of(api.StVar), "int n = x;"}, {of(api.StSet), "n = x;"}, {of(api.StPut), "n[x] = y;"}, {of(api.StCall), "n(x, y, z);"}, {of(api.StBreak), "break;"}, {of(api.StContinue), "continue;"}, {of(api.StReturn), "return x;"}, {of(api.StPrint), "print x;"},
		{of(api.StIf), "if (x)\n\t\tbreak;\n\telse\n\t\tcontinue;"}, {of(api.StWhile), "while (x)\n\t\tbreak;"}, {of(api.StBlock), "{\n\t\tbreak;\n\t\tcontinue;\n\t\treturn x;\n\t}"},
		{of(0), ""}, {of(12), ""}, {of(-1), ""}, {of(math.MinInt), ""}, {of(1<<32 + 7), ""}, {api.Stmt{}, ""},
		{sVar(""), "int ;"}, {sVar("", api.Expr{}), "int  = ;"}, {sSet("x"), "x = ;"}, {sSet(""), " = ;"}, {sPut("a"), "a[] = ;"}, {sPut("a", x), "a[x] = ;"}, {sPut("a", api.Expr{}, x), "a[] = x;"}, {sCall(""), "();"}, {sCall("f", api.Expr{}, x), "f(, x);"}, {sReturn(), "return ;"}, {sPrint(), "print ;"}, {sPrint(api.Expr{}), "print ;"}, {sReturn(x, y), "return x;"},
		{api.Stmt{Kind: api.StIf}, "if ()"}, {api.Stmt{Kind: api.StWhile}, "while ()"}, {api.Stmt{Kind: api.StBlock}, "{\n\t}"}, {sIf(x), "if (x)"}, {sWhile(x), "while (x)"}, {sIf(api.Expr{}, sBreak()), "if ()\n\t\tbreak;"},
		{sIf(x, api.Stmt{}, sBreak()), "if (x)\n\t\t\n\telse\n\t\tbreak;"}, {sIf(x, sIf(y, sBreak()), sContinue()), "if (x)\n\t\tif (y)\n\t\t\tbreak;\n\telse\n\t\tcontinue;"}, {sWhile(x, of(0)), "while (x)\n\t\t"}, {sWhile(x, sBlock(of(0))), "while (x)\n\t\t{\n\t\t\t\n\t\t}"},
	} {
		printsBody(t, "\t"+c.want+"\n", c.s)
		printsBody(t, "\t"+c.want+"\n\tx = y;\n", c.s, sSet("x", y))
	}
}

// P8.5, P8.6: functions' first lines.
func TestSignatures(t *testing.T) {
	for _, c := range []struct {
		f                api.Func
		first, signature string
	}{
		{fn("f", nil), "int f()", "int f()"},
		{fn("f", []string{}), "int f()", "int f()"},
		{fn("main", []string{"x"}), "int main(int x)", "int main(int)"},
		{fn("g", []string{"x", "y"}, sBreak()), "int g(int x, int y)", "int g(int, int)"},
		{fn("g", strings.Fields("a b c d e f g h i")), "int g(int a, int b, int c, int d, int e, int f, int g, int h, int i)", "int g(int, int, int, int, int, int, int, int, int)"},
		{api.Func{}, "int ()", "int ()"},
		{fn("", []string{"", ""}), "int (int , int )", "int (int, int)"},
	} {
		if s := PrintFunc(fn(c.f.Name, c.f.Params)); s != c.first+" {\n}\n" {
			t.Errorf("PrintFunc(%v) = %q", c.f, s)
		}
		if s := Signature(c.f); s != c.signature {
			t.Errorf("Signature(%v) = %q", c.f, s)
		}
	}
}

// P8.5: all globals, then all functions.
func TestPrint(t *testing.T) {
	p := prog(api.Global{Name: "x"}, fn("f", []string{"x"}, sReturn(eVar("x"))), api.Global{Name: "a", Size: 3}, fn("main", nil))
	if s := Print(p); s != "int x;\nint a[3];\nint f(int x) {\n\treturn x;\n}\nint main() {\n}\n" {
		t.Errorf("%q", s)
	}
	if s := Print(api.Prog{}); s != "" {
		t.Errorf("%q", s)
	}
	if s := Print(prog(api.Global{Size: -2}, api.Func{Params: []string{"?"}, Body: []api.Stmt{{}}})); s != "int [-2];\nint (int ?) {\n\t\n}\n" {
		t.Errorf("%q", s)
	}
	var want strings.Builder
	for _, g := range p.Globals {
		want.WriteString(PrintGlobal(g))
	}
	for _, f := range p.Funcs {
		want.WriteString(PrintFunc(f))
	}
	if s := Print(p); s != want.String() {
		t.Errorf("%q; want %q", s, want.String())
	}
}

func ExamplePrint() {
	p, _, _ := Parse("int main() { print 1 + 2 * 3; }")
	fmt.Print(Print(p))
	_, err, at := Parse("int main() { x 1; }")
	fmt.Println(err == api.ErrToken, at.Off)
	// Output:
	// int main() {
	// 	print 1 + (2 * 3);
	// }
	// true 15
}
