package deps_test

import (
	"slices"
	"strconv"
	"strings"
	"testing"

	"brazier/api"
	"brazier/deps"
	"brazier/sample"
)

// changed tells which functions of a text are Changed since an older one.
func changed(t *testing.T, old, now, want string) {
	t.Helper()
	if got := deps.Changed(program(t, old), program(t, now)); words(got) != want {
		t.Errorf("%s, %s: %q; want %q", old, now, got, want)
	}
}

// P22.2, P22.5: whose key none of the older program's functions has.
func TestChanged(t *testing.T) {
	const old = "int g; int a[3]; int f(int x) { return g + x; } int k() { a[0] = f(1); } int main() { k(); }"
	changed(t, old, old, "")
	changed(t, old, "// other comments\nint g; /* and */ int a[3]; int f(int x) { return ((g) + x); } int k() { a[0] = f(1); } int main() { k(); }", "")
	changed(t, old, "int main() { k(); } int a[3]; int k() { a[0] = f(1); } int f(int x) { return g + x; } int g;", "")
	changed(t, old, "int g; int a[3]; int f(int y) { return g + y; } int k() { a[0] = f(1); } int main() { k(); }", "f")
	changed(t, old, "int g; int a[3]; int f(int x) { return g - x; } int k() { a[0] = f(1); } int main() { k(); }", "f")
	changed(t, old, "int g; int a[4]; int f(int x) { return g + x; } int k() { a[0] = f(1); } int main() { k(); }", "k")
	changed(t, old, "int g; int a[3]; int f(int x, int y) { return g + x; } int k() { a[0] = f(1, 2); } int main() { k(); }", "f k")
	changed(t, old, "int g; int a[3]; int f(int x) { return g + x; } int k(int x) { a[0] = f(1); } int main() { k(0); }", "k main")
	changed(t, old, "int main() { k(0); } int g; int a[3]; int k(int x) { a[0] = f(1); } int f(int x) { return g + x; }", "main k")
	changed(t, old, "int h; int a[3]; int f(int x) { return h + x; } int k() { a[0] = f(1); } int main() { k(); }", "f")
	changed(t, old, "int g; int a[3]; int e(int x) { return g + x; } int k() { a[0] = e(1); } int main() { k(); }", "e k")
	changed(t, old, "int g; int a[3]; int b[3]; int new() { } int f(int x) { return g + x; } int k() { a[0] = f(1); } int main() { k(); }", "new")
	changed(t, old, "int main() { }", "main")
	changed(t, "int main() { }", old, "f k main")
	changed(t, "int f(int x) { return x; } int main() { }", "int main() { return f(1, 2); } int f(int x, int y) { return x; }", "main f")
	changed(t, "int g[2]; int f() { g[0] = 1; } int main() { f(); }", "int g[3]; int f() { g[0] = 1; } int main() { f(); }", "f")
	changed(t, "int g; int f() { int g; g = 1; } int main() { f(); }", "int g[3]; int f() { int g; g = 1; } int main() { f(); }", "")
	p := program(t, old)
	if got := deps.Changed(api.Prog{}, p); words(got) != "f k main" {
		t.Error(got)
	}
	if got := deps.Changed(p, api.Prog{}); len(got) != 0 {
		t.Error(got)
	}
}

// callers and order tell Callers of each function, and Order, by the lines of a text: "a: b c" is a function a that calls b and c.
func callers(t *testing.T, lines, want string) {
	t.Helper()
	p := graph(t, lines)
	for _, w := range strings.Split(want, ";") {
		name, l, _ := strings.Cut(strings.TrimSpace(w), ":")
		if got := deps.Callers(p, name); words(got) != strings.TrimSpace(l) {
			t.Errorf("%s: of %s: %q; want %q", lines, name, got, l)
		}
	}
}

func order(t *testing.T, lines, want string) {
	t.Helper()
	if got := deps.Order(graph(t, lines)); words(got) != want {
		t.Errorf("%s: %q; want %q", lines, got, want)
	}
}

// graph is a program of such functions.
func graph(t *testing.T, lines string) api.Prog {
	t.Helper()
	var text strings.Builder
	for _, line := range strings.Split(lines, ";") {
		name, l, _ := strings.Cut(strings.TrimSpace(line), ":")
		text.WriteString("int " + name + "() { ")
		for i, callee := range strings.Fields(l) {
			form := []string{"?(); ", "print -?(); ", "if (?()) ; ", "while (0) { int x = 1 + ?(); } "}[i%4]
			text.WriteString(strings.ReplaceAll(form, "?", callee))
		}
		text.WriteString("} ")
	}
	return program(t, text.String())
}

// P22.2: those that call a function, themselves or by others.
func TestCallers(t *testing.T) {
	callers(t, "main", "main:; f:; x:; :")
	callers(t, "main: main", "main: main")
	callers(t, "main: f; f", "f: main; main:")
	callers(t, "main: f; f: k; k: l; l", "l: f k main; k: f main; f: main; main:")
	callers(t, "f: f; main: f", "f: f main; main:")
	callers(t, "f: k; k: f; main: f", "f: f k main; k: f k main; main:")
	callers(t, "a: b; b: c; c: a; d: c; e; main: d", "a: a b c d main; b: a b c d main; c: a b c d main; d: main; e:; main:")
	callers(t, "main: b a; a: z; b: z; z: y; y: y; c", "z: a b main; y: a b main y z; a: main; c:")
	callers(t, "b: t; a: t; Z: t; _: t; aa: t; B: t; z9: t; main; t", "t: B Z _ a aa b z9")
	p := program(t, "int g; int a[2]; int f(int f) { return f + g; } int k() { int f; f = g; a[0] = f; } int main() { f(1); }")
	for name, want := range map[string]string{"f": "main", "g": "", "a": "", "k": "", "x": "", "": "", "main": "", "int": "", "F": "", "f ": ""} {
		if got := deps.Callers(p, name); words(got) != want {
			t.Errorf("%s: %q; want %q", name, got, want)
		}
	}
}

// P22.2: each behind those that it calls; the least ahead.
func TestOrder(t *testing.T) {
	order(t, "main", "main")
	order(t, "main: main", "main")
	order(t, "main: f; f", "f main")
	order(t, "z; main; f; a; Z; _; b", "Z _ a b f main z")
	order(t, "a: b; b: c; c; main: a", "c b a main")
	order(t, "a: z; main; z", "main z a")
	order(t, "a: z; z: z; main: main", "main z a")
	order(t, "b: main; a: c; c; main", "c a main b")
	order(t, "a: c; b; c: d; d: b; main", "b d c a main")
	// round about: the least first, and then those that only it was in the way of
	order(t, "f: k; k: f; main: f", "f k main")
	order(t, "x: f k; f: k; k: f; a; main: x", "a f k x main")
	order(t, "a: b; b: a; c: d; d: c; main", "main a b c d")
	order(t, "b: z; z: y; y: z; c: y; main: b", "b main c y z")
	order(t, "a: b; b: c; c: a; main: c; d: a", "a c b d main")
	order(t, "main: a; a: main z; z: main; y: z", "a main z y")
	if got := deps.Order(api.Prog{}); len(got) != 0 {
		t.Error(got)
	}
}

// A matrix is which function calls which.
type matrix [][]bool

// prog is a program of functions of such names, the first main.
func (x matrix) prog(names []string) api.Prog {
	var p api.Prog
	for i, row := range x {
		f := api.Func{Name: names[i]}
		for j, is := range row {
			if is {
				f.Body = append(f.Body, api.Stmt{Kind: api.StCall, Name: names[j]})
			}
		}
		p.Funcs = append(p.Funcs, f)
	}
	return p
}

// callers is of each function those that call it, by ways of any length.
func (x matrix) callers(names []string) []string {
	n := len(x)
	reach := make(matrix, n)
	for i := range reach {
		reach[i] = slices.Clone(x[i])
	}
	for k := range n {
		for i := range n {
			for j := range n {
				reach[i][j] = reach[i][j] || reach[i][k] && reach[k][j]
			}
		}
	}
	out := make([]string, n)
	for j := range n {
		var l []string
		for i := range n {
			if reach[i][j] {
				l = append(l, names[i])
			}
		}
		out[j] = words(rising(l))
	}
	return out
}

// isNext is whether it is that function's turn behind those that are there.
func (x matrix) isNext(names []string, there []bool, next int) bool {
	ready := func(i int) bool {
		for j, calls := range x[i] {
			if calls && j != i && !there[j] {
				return false
			}
		}
		return true
	}
	some := false
	for i := range x {
		some = some || !there[i] && ready(i)
	}
	for i := range x {
		if !there[i] && names[i] < names[next] && (ready(i) || !some) {
			return false
		}
	}
	return !there[next] && (ready(next) || !some)
}

// agrees holds all against what the chapter says of calls.
func (x matrix) agrees(t *testing.T, names []string) {
	t.Helper()
	p := x.prog(names)
	for i, want := range x.callers(names) {
		if got := deps.Callers(p, names[i]); words(got) != want {
			t.Fatalf("%v, %q: of %s: %q; want %q", x, names, names[i], got, want)
		}
	}
	got, there := deps.Order(p), make([]bool, len(x))
	for _, name := range got {
		i := slices.Index(names, name)
		if i < 0 || !x.isNext(names, there, i) {
			t.Fatalf("%v, %q: %q: %s isn't next", x, names, got, name)
		}
		there[i] = true
	}
	if len(got) != len(names) {
		t.Fatalf("%v, %q: %q", x, names, got)
	}
}

// P22.2: all ways in which three functions may call each other, with main's name the greatest, the least, and between.
func TestEachGraph(t *testing.T) {
	for bits := range 1 << 9 {
		x := make(matrix, 3)
		for i := range 9 {
			x[i/3] = append(x[i/3], bits>>i&1 == 1)
		}
		for _, names := range [][]string{{"main", "a", "b"}, {"main", "z", "y"}, {"main", "a", "z"}, {"main", "Z", "_"}} {
			x.agrees(t, names)
		}
	}
}

// P22.2: random calls, of up to as many functions as a program may have.
func TestRandomGraphs(t *testing.T) {
	m := newMaker(224)
	for range rounds(600) {
		n := one(m, 2, 4, 4, 4, 5, 5, 6, 7, 9, 20, 30, api.MaxFuncs)
		names := []string{"main"}
		for i := 1; i < n; i++ {
			names = append(names, one(m, "f", "z", "_", "A", "")+"n"+strconv.Itoa(i))
		}
		m.Shuffle(n, func(i, j int) { names[i], names[j] = names[j], names[i] })
		dense := one(m, 1, n/2+1, n, 2*n, 4*n)
		x := make(matrix, n)
		for i := range x {
			x[i] = make([]bool, n)
		}
		for range dense {
			i, j := m.Intn(n), m.Intn(n)
			if m.Intn(3) > 0 && i > j {
				i, j = j, i
			}
			x[i][j] = true
		}
		x.agrees(t, names)
	}
}

// P22.2: calls that stand anywhere, of programs.
func TestRandomPrograms(t *testing.T) {
	m := newMaker(225)
	for range rounds(1500) {
		p := m.Prog()
		var names []string
		for _, f := range p.Funcs {
			names = append(names, f.Name)
		}
		x := make(matrix, len(names))
		for i, f := range p.Funcs {
			called, _ := named(f)
			for _, name := range names {
				x[i] = append(x[i], slices.Contains(called, name))
			}
		}
		for i, want := range x.callers(names) {
			if got := deps.Callers(p, names[i]); words(got) != want {
				t.Fatalf("%q; want %q", got, want)
			}
		}
		if got, want := deps.Order(p), deps.Order(x.prog(names)); !slices.Equal(got, want) {
			t.Fatalf("%q; want %q", got, want)
		}
	}
}

// Rules 3, 4 and 6: what is handed in stays as it is; answers are new memory, and hang on it alone.
func TestArgumentsStay(t *testing.T) {
	m := newMaker(4)
	for range rounds(700) {
		p := sample.CopyProg(m.Prog())
		q := edited(m, p)
		keptP, keptQ := sample.CopyProg(p), sample.CopyProg(q)
		all := func(p, q api.Prog) (out []string) {
			for _, f := range p.Funcs {
				key := deps.Key(p, f)
				out = append(out, string(key))
				clear(key[:cap(key)])
				l := deps.Callers(p, f.Name)
				out = append(out, l...)
				clear(l[:cap(l)])
			}
			for _, l := range [][]string{deps.Changed(p, q), deps.Order(p), deps.Order(q)} {
				out = append(out, l...)
				clear(l[:cap(l)])
			}
			return out
		}
		want := all(p, q)
		if got := all(p, q); !slices.Equal(got, want) || !alike(p, keptP) || !alike(q, keptQ) {
			t.Fatalf("%q; want %q", got, want)
		}
		emptied(&keptP)
		if got := all(keptP, keptQ); !slices.Equal(got, want) {
			t.Fatalf("%q; want %q", got, want)
		}
	}
}

// Of programs in which something is wrong nothing is promised, but each call ends, without a panic.
func TestAnyPrograms(t *testing.T) {
	bad := []api.Func{
		{}, {Name: "f", Body: []api.Stmt{{}}}, {Name: "f", Body: []api.Stmt{{Kind: api.StCall}}}, {Name: "f", Body: []api.Stmt{{Kind: api.StCall, Name: "f"}, {Kind: api.StCall, Name: "nowhere"}}},
		{Name: "f", Body: []api.Stmt{{Kind: api.StIf}, {Kind: api.StPut}, {Kind: 99}}}, {Name: "f", Body: []api.Stmt{{Kind: api.StPrint, Exprs: []api.Expr{{}, {Kind: api.ExBin}, {Kind: api.ExCall, Name: "f"}}}}}, {Name: "f", Params: make([]string, 100)},
	}
	for _, f := range bad {
		for _, p := range []api.Prog{{}, {Funcs: []api.Func{f}}, {Globals: make([]api.Global, 3), Funcs: []api.Func{f, f, {}}}, {Funcs: slices.Concat(bad, bad)}} {
			deps.Key(p, f)
			deps.Changed(p, api.Prog{Funcs: bad})
			deps.Changed(api.Prog{Funcs: bad}, p)
			deps.Callers(p, f.Name)
			deps.Order(p)
		}
	}
}
