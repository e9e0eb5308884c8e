package deps_test

import (
	"slices"
	"strconv"
	"strings"
	"testing"

	"brazier/api"
	"brazier/check"
	"brazier/deps"
	"brazier/sample"
	"brazier/syntax"
	"brazier/unit"
)

// key tells a function's key, with a | for each line end.
func key(t *testing.T, text, name, want string) {
	t.Helper()
	p := program(t, text)
	if got := deps.Key(p, function(t, p, name)); string(got) != strings.ReplaceAll(want, "|", "\n") {
		t.Errorf("%s: %s: %q; want %q", text, name, got, want)
	}
}

// P22.1: the version.
func TestVersion(t *testing.T) {
	if got := deps.Version(); got != "brazier 1" {
		t.Errorf("%q", got)
	}
}

// P22.1: the version, the function, what it calls, what it names.
func TestKey(t *testing.T) {
	const chapters = "int g; int f() { return g; } int main() { return f(); }"
	key(t, chapters, "main", "brazier 1|int main() {|\treturn f();|}|int f()|")
	key(t, chapters, "f", "brazier 1|int f() {|\treturn g;|}|int g;|")
	const text = "int z; int b[3]; int Z; int _; int none[7]; int two(int x, int y) { } int one(int x) { return one(x - 1); } int none2() { } int all(int a, int b, int c, int d, int e, int f, int g, int h) { } int main() { _ = two(b[1], z) + Z; b[2] = one(1); all(1, 2, 3, 4, 5, 6, 7, 8); one(2); }"
	key(t, text, "main", "brazier 1|int main() {|\t_ = two(b[1], z) + Z;|\tb[2] = one(1);|\tall(1, 2, 3, 4, 5, 6, 7, 8);|\tone(2);|}|int all(int, int, int, int, int, int, int, int)|int one(int)|int two(int, int)|int Z;|int _;|int b[3];|int z;|")
	key(t, text, "one", "brazier 1|int one(int x) {|\treturn one(x - 1);|}|int one(int)|")
	key(t, text, "two", "brazier 1|int two(int x, int y) {|}|")
	key(t, text, "none2", "brazier 1|int none2() {|}|")
	key(t, "int main() { }", "main", "brazier 1|int main() {|}|")
	key(t, "int main() { main(); }", "main", "brazier 1|int main() {|\tmain();|}|int main()|")
}

// P22.1: local names are none of a global's or a function's.
func TestKeyOfLocals(t *testing.T) {
	const with = "int g; int a[2]; int f() { } "
	key(t, with+"int main() { int g; int a; int f; g = a + f; }", "main", "brazier 1|int main() {|\tint g;|\tint a;|\tint f;|\tg = a + f;|}|")
	key(t, with+"int main() { int g = g; { int f; f = g; } f(); }", "main", "brazier 1|int main() {|\tint g = g;|\t{|\t\tint f;|\t\tf = g;|\t}|\tf();|}|int f()|int g;|")
	key(t, with+"int main() { } int k(int g, int f) { return g + f + a[f]; }", "k", "brazier 1|int k(int g, int f) {|\treturn (g + f) + a[f];|}|int a[2];|")
}

// P22.1: random programs' keys, by their names in another way.
func TestRandomKeys(t *testing.T) {
	m := newMaker(221)
	parts := 0
	for range rounds(3000) {
		p := m.Prog()
		for _, f := range p.Funcs {
			want := "brazier 1\n" + syntax.PrintFunc(f)
			called, others := named(f)
			for _, name := range called {
				want += "int " + name + "(" + strings.TrimSuffix(strings.Repeat("int, ", len(function(t, p, name).Params)), ", ") + ")\n"
			}
			for _, name := range others {
				i := slices.IndexFunc(p.Globals, func(g api.Global) bool { return g.Name == name })
				want += "int " + name
				if n := p.Globals[i].Size; n > 0 {
					want += "[" + strconv.Itoa(n) + "]"
				}
				want += ";\n"
			}
			if got := string(deps.Key(p, f)); got != want {
				t.Fatalf("%s; want %s", got, want)
			}
			parts += len(called) + len(others)
		}
	}
	if parts < rounds(5000) {
		t.Error(parts)
	}
}

// edited is a program that differs from p in this and that.
func edited(m *maker, p api.Prog) api.Prog {
	q := sample.CopyProg(p)
	for range m.Intn(4) {
		f := &q.Funcs[m.Intn(len(q.Funcs))]
		switch m.Intn(9) {
		case 0:
			m.Shuffle(len(q.Funcs), func(i, j int) { q.Funcs[i], q.Funcs[j] = q.Funcs[j], q.Funcs[i] })
		case 1:
			m.Shuffle(len(q.Globals), func(i, j int) { q.Globals[i], q.Globals[j] = q.Globals[j], q.Globals[i] })
		case 2:
			q.Globals = append(q.Globals, api.Global{Name: one(m, "new", "new2"), Size: m.Intn(3)})
		case 3:
			q.Funcs = append(q.Funcs, api.Func{Name: one(m, "more", "more2"), Body: m.Prog().Funcs[0].Body})
		case 4:
			g := &q.Globals[m.Intn(len(q.Globals))]
			g.Size = one(m, g.Size, 1, 3, 4)
		case 5:
			f.Body = append(f.Body, api.Stmt{Kind: api.StPrint, Exprs: []api.Expr{m.Num()}})
		case 6:
			*f, _ = sample.Renamed(*f)
		case 7:
			f.Params = append(f.Params, "own")
		case 8:
			if len(f.Body) > 0 {
				f.Body = slices.Delete(f.Body, 0, 1)
			}
		}
	}
	return q
}

// hangsOn is all that a function's compilation hangs on, by what P22.4 says.
type hangsOn struct {
	f          api.Func
	signatures []string
	globals    []api.Global
}

func (x hangsOn) same(y hangsOn) bool {
	return syntax.SameFunc(x.f, y.f) && slices.Equal(x.signatures, y.signatures) && slices.Equal(x.globals, y.globals)
}

func hanging(p api.Prog, f api.Func) hangsOn {
	x := hangsOn{f: f}
	called, others := named(f)
	for _, name := range called {
		g, _ := check.Find(p, name)
		x.signatures = append(x.signatures, name+strconv.Itoa(len(g.Params)))
	}
	for _, name := range others {
		g, _ := check.Global(p, name)
		x.globals = append(x.globals, g)
	}
	return x
}

// P22.3, P22.4, P22.2: functions of one key are the same, and name the same, and are compiled to one unit; others have other keys, and are Changed.
func TestKeysTellApart(t *testing.T) {
	m := newMaker(222)
	alike, apart := 0, 0
	for range rounds(4000) {
		p := m.Prog()
		q := edited(m, p)
		if check.Check(q) != (api.Diag{}) {
			continue
		}
		var changed []string
		for _, g := range q.Funcs {
			is := false
			for _, f := range p.Funcs {
				one := string(deps.Key(p, f)) == string(deps.Key(q, g))
				if one != hanging(p, f).same(hanging(q, g)) {
					t.Fatalf("%s, %s", deps.Key(p, f), deps.Key(q, g))
				}
				var none *unit.Pipeline
				if one && !unit.Same(none.Compile(p, f), none.Compile(q, g)) {
					t.Fatalf("%s: %s; want %s", deps.Key(p, f), unit.Print(none.Compile(q, g)), unit.Print(none.Compile(p, f)))
				}
				is = is || one
			}
			if is {
				alike++
			} else {
				apart++
				changed = append(changed, g.Name)
			}
		}
		if got := deps.Changed(p, q); !slices.Equal(got, changed) {
			t.Fatalf("%q; want %q", got, changed)
		}
		if got := deps.Changed(q, q); len(got) != 0 {
			t.Fatalf("%q", got)
		}
	}
	if alike < rounds(2000) || apart < rounds(1000) {
		t.Error(alike, apart)
	}
}

// P22.5: blanks, comments and brackets don't count.
func TestKeysOfTexts(t *testing.T) {
	m := newMaker(223)
	for range rounds(1000) {
		p := m.Prog()
		q := program(t, m.Text(p))
		for i := range p.Funcs {
			if got, want := string(deps.Key(q, q.Funcs[i])), string(deps.Key(p, p.Funcs[i])); got != want {
				t.Fatalf("%s; want %s", got, want)
			}
		}
		if got := deps.Changed(p, q); len(got) != 0 {
			t.Fatalf("%q", got)
		}
	}
}
