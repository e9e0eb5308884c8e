package link_test

import (
	"slices"
	"strconv"
	"strings"
	"testing"

	"brazier/api"
	"brazier/asm"
	"brazier/check"
	"brazier/lexer"
	"brazier/link"
	"brazier/syntax"
	"brazier/unit"
)

// wrong tells what is wrong with a text, Check's and Clean's answers alike.
func wrong(t *testing.T, text string, want api.Diag) {
	t.Helper()
	if p, d := link.Check(text); d != want || !isZero(p) {
		t.Errorf("%.100q: %+v, %+v; want %+v", text, d, p, want)
	}
	if out, d := link.Clean(text); d != want || out != "" {
		t.Errorf("%.100q: %+v, %.100q; want %+v", text, d, out, want)
	}
}

// P21.2: what layers 7 and 8 find wrong: Err and Place alone.
func TestWrongTexts(t *testing.T) {
	for marked, err := range map[string]api.Errno{ // ahead of where it is wrong is a ?
		"?@":                                     api.ErrByte,
		"int main() { print ?1x; }":              api.ErrNum,
		"int main() { print ?2147483648; }":      api.ErrNum,
		"int main() { /* }?":                     api.ErrEnd,
		"int main() {\n print 1;\n?":             api.ErrEnd,
		"int main() { return 1; } int g?":        api.ErrEnd,
		"int main() { x ?1; }":                   api.ErrToken,
		"?main() { }":                            api.ErrToken,
		"int main() { x = y; }\n\t?}":            api.ErrToken,
		"int g;\n\n  int ?if() { }":              api.ErrToken,
		"int a[?0]; int main() { }":              api.ErrSize,
		"int main() { x = y; } int a[?4097]":     api.ErrSize,
		"int main() { x = y; } // é\n?é":         api.ErrByte,
		"int f(int x, int x) { break; } ?f":      api.ErrToken,
		strings.Repeat("\n", 1000) + "?\x00":     api.ErrByte,
		"int f() { ?" + strings.Repeat("n", 65):  api.ErrBig,
		"?" + strings.Repeat(" ", api.MaxText+1): api.ErrBig,
		"?int main() { " + strings.Repeat("{", 65) + strings.Repeat("}", 65) + " }":                      api.ErrNest,
		"int main() { print " + strings.Repeat("(", 511) + "?(" + "1" + strings.Repeat(")", 512) + "; }": api.ErrNest,
		strings.Repeat("int f() { } ", 64) + "?int main() { }":                                           api.ErrBig,
		strings.Repeat("int g; ", 64) + "?int h; int main() { }":                                         api.ErrBig,
		"int f(int a, int b, int c, int d, int e, int g, int h, int i, ?int j) { } int main() { }":       api.ErrBig,
	} {
		off := strings.Index(marked, "?")
		text := marked[:off] + marked[off+1:]
		wrong(t, text, api.Diag{Err: err, Place: lexer.At(text, off)})
	}
}

// P21.2: what layer 9 finds wrong: a Place of nothing.
func TestWrongPrograms(t *testing.T) {
	for text, want := range map[string]api.Diag{
		"":                                        {Err: api.ErrMain},
		"int g;":                                  {Err: api.ErrMain},
		" // nothing\n":                           {Err: api.ErrMain},
		"int main(int x) { }":                     {Err: api.ErrMain},
		"int main() { } int main() { }":           {Err: api.ErrTwice, Name: "main"},
		"int g; int g[2]; int main() { }":         {Err: api.ErrTwice, Name: "g"},
		"int f; int f() { }":                      {Err: api.ErrTwice, Name: "f"},
		"int main() { x = 1; }":                   {Err: api.ErrName, Func: "main", Name: "x"},
		"int f(int x) { int x; } int main() { }":  {Err: api.ErrTwice, Func: "f", Name: "x"},
		"int main() { break; }":                   {Err: api.ErrLoop, Func: "main", Name: "break"},
		"int main() { if (1) continue; }":         {Err: api.ErrLoop, Func: "main", Name: "continue"},
		"int a[2]; int main() { print a; }":       {Err: api.ErrKind, Func: "main", Name: "a"},
		"int f(int x) { } int main() { f(); }":    {Err: api.ErrArity, Func: "main", Name: "f"},
		"int main() { f(1); } int f() { y = 1; }": {Err: api.ErrArity, Func: "main", Name: "f"},
		"int a[4096]; int b[4096]; int c[4096]; int d[4096]; int g; int main() { }": {Err: api.ErrSize, Name: "g"},
		"int main() { " + locals(257) + "}":                                         {Err: api.ErrBig, Func: "main", Name: "v256"},
	} {
		wrong(t, text, want)
	}
}

// locals is the declarations of so many words.
func locals(n int) string {
	var out strings.Builder
	for i := range n {
		out.WriteString("int v" + strconv.Itoa(i) + "; ")
	}
	return out.String()
}

// P21.2: what nothing is wrong with: the program, and Print of Link of its globals and its functions, each compiled, in the program's order.
func TestRight(t *testing.T) {
	m := newMaker(213)
	for range rounds(1500) {
		p := m.Prog()
		text := m.Text(p)
		if got, d := link.Check(text); d != (api.Diag{}) || !alike(got, p) {
			t.Fatalf("%s: %+v; want %+v", text, d, p)
		}
		var x unit.Pipeline
		var units []api.Unit
		for _, f := range p.Funcs {
			units = append(units, x.Compile(p, f))
		}
		if got, want := clean(t, text), asm.Print(link.Link(p.Globals, units)); got != want {
			t.Fatalf("%s; want %s", got, want)
		}
	}
}

// P21.2: layers 8 and 9 tell what is wrong with any text; the first that is tells alone.
func TestSpoiltTexts(t *testing.T) {
	m := newMaker(214)
	found := map[api.Errno]int{}
	for range rounds(5000) {
		text := m.Text(m.Prog())
		for range m.Intn(4) {
			text = m.Spoilt(text, "x", "y", "a", "f", "g", " ", "(", ")", "{", "}", "[", "]", ";", ",", "1", "0", "=", "+", "int ", "break;", "a[1]", "f()", "@", "/*", "\x00", "")
		}
		p, err, at := syntax.Parse(text)
		want := api.Diag{Err: err, Place: at}
		if err == api.OK {
			want = check.Check(p)
		}
		found[want.Err]++
		if want.Err != api.OK {
			wrong(t, text, want)
			continue
		}
		if got, d := link.Check(text); d != want || !alike(got, p) {
			t.Fatalf("%s: %+v", text, d)
		}
		loaded(t, clean(t, text)) // P21.3
	}
	for _, err := range []api.Errno{api.OK, api.ErrByte, api.ErrNum, api.ErrEnd, api.ErrToken, api.ErrName, api.ErrKind, api.ErrArity, api.ErrLoop} {
		if found[err] == 0 && !testing.Short() {
			t.Errorf("%d texts with %d", found[err], err)
		}
	}
}

// P21.2: the chapter's example.
func TestExample(t *testing.T) {
	got := clean(t, "int main() { print 1; }")
	if lines := strings.Split(got, "\n"); !slices.Equal(lines[:7], []string{".stack 512", ".start:", "\tlui x2, 16", "\taddi x2, x2, 512", "\tjal x1, main", "\taddi x17, x0, 3", "\tecall"}) || lines[7] != "main:" {
		t.Error(got)
	}
}

// Rule 6: an answer hangs on its text alone, and is new memory.
func TestCheckIsNew(t *testing.T) {
	const text = "int g; int a[3]; int f(int x, int y) { if (x) { int z = a[y] + 1; print z; } return f(1, g); } int main() { }"
	first, _ := link.Check(text)
	want, _ := link.Check(text)
	first.Globals[0].Name, first.Funcs[0].Params[0], first.Funcs[0].Body[0].Kids[0].Kids[0].Exprs[0].Op = "spoilt", "spoilt", 99
	if again, d := link.Check(text); d != (api.Diag{}) || !alike(again, want) || alike(again, first) {
		t.Errorf("%+v; want %+v", again, want)
	}
}
