package check_test

import (
	"reflect"
	"strings"
	"testing"

	"brazier/api"
	"brazier/check"
)

// P9.4: the functions that are called, the globals that are named, each once.
func TestUses(t *testing.T) {
	p := program(t, `int g; int a[3]; int h; int b[2]; int none; int none2[2];
		int f(int x) { return h; }
		int two(int x, int y) { return f(x) + y; }
		int idle() { }
		int main() { g = g + a[two(f(1), g)]; two(1, 2); f(3); }`)
	uses(t, p, "main", "f two", "a g")
	uses(t, p, "two", "f", "")
	uses(t, p, "f", "", "h")
	uses(t, p, "idle", "", "")
}

// P9.4: wherever a name stands.
func TestUsesWherever(t *testing.T) {
	const with = "int g; int a[3]; int f() { } int k(int x) { } int main() { "
	for body, want := range map[string][2]string{
		"":                                      {"", ""},
		";":                                     {"", ""},
		"g = 1;":                                {"", "g"},
		"a[1] = 1;":                             {"", "a"},
		"f();":                                  {"f", ""},
		"main();":                               {"main", ""},
		"int x = g;":                            {"", "g"},
		"int x = a[1];":                         {"", "a"},
		"int x = f();":                          {"f", ""},
		"a[g] = 1;":                             {"", "a g"},
		"a[0] = g;":                             {"", "a g"},
		"a[f()] = k(1);":                        {"f k", "a"},
		"k(g);":                                 {"k", "g"},
		"k(k(f()));":                            {"f k", ""},
		"k(a[g]);":                              {"k", "a g"},
		"if (g) ; else ;":                       {"", "g"},
		"if (1) g = 1;":                         {"", "g"},
		"if (1) ; else f();":                    {"f", ""},
		"if (f()) a[0] = 0; else g = 1;":        {"f", "a g"},
		"while (f()) ;":                         {"f", ""},
		"while (1) { { g = 1; } break; f(); }":  {"f", "g"},
		"return g;":                             {"", "g"},
		"return f();":                           {"f", ""},
		"print a[2];":                           {"", "a"},
		"print -g;":                             {"", "g"},
		"print 1 + f();":                        {"f", ""},
		"print f() - 1;":                        {"f", ""},
		"print 0 && f() || g;":                  {"f", "g"},
		"return 1; f(); g = 1;":                 {"f", "g"},
		"if (0) f();":                           {"f", ""},
		"print read() + 1;":                     {"", ""},
		"f(); f(); print f() + f(); g = g + g;": {"f", "g"},
		"int x; x = x + 1; print x;":            {"", ""},
	} {
		uses(t, program(t, with+body+" }"), "main", want[0], want[1])
	}
}

// P9.4: a name that is local where it stands is none of a function or a global.
func TestUsesOfLocals(t *testing.T) {
	const with = "int g; int a[3]; int f() { } int main() { "
	for body, want := range map[string][2]string{
		"int g; g = 1; print g;":                         {"", ""},
		"int g = g;":                                     {"", "g"},
		"int g = 1; int x = g;":                          {"", ""},
		"g = 1; int g; g = 2;":                           {"", "g"},
		"{ int g; g = 1; } print 1;":                     {"", ""},
		"{ int g; g = 1; } print g;":                     {"", "g"},
		"int g; { g = 1; { print g; } }":                 {"", ""},
		"if (1) int g; else print g;":                    {"", "g"},
		"if (1) int g; g = 1;":                           {"", "g"},
		"while (g) int g;":                               {"", "g"},
		"while (1) { int g; while (g) g = 1; }":          {"", ""},
		"int a; a = 1; print a;":                         {"", ""},
		"print a[1]; int a; a = 1;":                      {"", "a"},
		"int f; f = 1; print f;":                         {"", ""},
		"int f = f(); print f;":                          {"f", ""},
		"{ int f; print f; } f();":                       {"f", ""},
		"{ int f; } { int g; f(); }":                     {"f", ""},
		"int main; print main;":                          {"", ""},
		"if (1) { int a; int f; a = f; } else a[f()]=1;": {"f", "a"},
	} {
		uses(t, program(t, with+body+" }"), "main", want[0], want[1])
	}
	p := program(t, "int g; int a[3]; int h; int f(int g, int a) { return g + a + h + k(1, 2); } int k(int f, int k) { return f + k; } int main() { }")
	uses(t, p, "f", "k", "h")
	uses(t, p, "k", "", "")
}

// P9.4: by bytes, not as they stand there or were declared.
func TestUsesRise(t *testing.T) {
	names := strings.Fields("b a Z _ a1 ab a_ zz z A b0 B z9 aB")
	rising := strings.Fields("A B Z _ a a1 aB a_ ab b b0 z z9 zz")
	var globals, funcs, body strings.Builder
	for _, name := range names {
		globals.WriteString("int g_" + name + "; ")
		funcs.WriteString("int f_" + name + "() { } ")
		body.WriteString("g_" + name + " = f_" + name + "() + g_b + f_b(); ")
	}
	p := program(t, funcs.String()+globals.String()+"int main() { "+body.String()+"}")
	uses(t, p, "main", "f_"+strings.Join(rising, " f_"), "g_"+strings.Join(rising, " g_"))
}

// P9.4: of programs in which something is wrong: the first function of the name; a name is the global's ahead of the function's; what isn't called, or isn't there, is told of nowhere.
func TestUsesOfWrong(t *testing.T) {
	p := program(t, "int g; int h; int f() { return g; } int f(int x) { return h + k(); } int k() { } int k() { f(); }")
	uses(t, p, "f", "", "g")
	uses(t, p, "k", "", "")
	p = program(t, "int g; int both; int a[2]; int both() { } int f() { } int main() { nowhere(); x = y; z[1] = 2; print f; f = 1; f[2] = 3; both(); g(); a(); print a; g[1] = 2; break; f(1, nowhere2()); }")
	uses(t, p, "main", "f", "a both g")
	uses(t, p, "both", "", "")
	p = program(t, "int f() { } int main() { print f; f = f; f[1] = f[2]; int f; f(); print f(1); }")
	uses(t, p, "main", "", "")
	p = program(t, "int f(int x, int x) { int x; int x = g; return k(x); } int g; int k() { }")
	uses(t, p, "f", "k", "g")
	p = program(t, "int main() { "+repeated(300, "int x#; ")+"x299 = g + y; } int g; int x299; int x300;")
	uses(t, p, "main", "", "g")
}

// P9.4: of a function that isn't there.
func TestUsesOfNone(t *testing.T) {
	p := program(t, "int g; int main() { main(); g = 1; }")
	for _, name := range []string{"", "g", "Main", "mai", "main ", "int"} {
		if c, g := check.Uses(p, name); len(c) != 0 || len(g) != 0 {
			t.Errorf("%q: %q, %q", name, c, g)
		}
	}
	uses(t, api.Prog{}, "main", "", "")
}

// P9.4: what is told is one function's, not what those have that it calls.
func TestUsesOfOne(t *testing.T) {
	p := program(t, "int a; int b; int c; int f() { a = 1; g(); } int g() { b = 1; h(); f(); } int h() { c = 1; h(); } int main() { }")
	uses(t, p, "f", "g", "a")
	uses(t, p, "g", "f h", "b")
	uses(t, p, "h", "h", "c")
	uses(t, p, "main", "", "")
}

// P9.4: the first function of a name, whole.
func TestFind(t *testing.T) {
	p := program(t, "int g; int both; int f(int x) { if (x) print -x; else a[1] = f(2, x); } int both() { return 1; } int f() { return 2; } int none() { }")
	for name, i := range map[string]int{"f": 0, "both": 1, "none": 3} {
		f, ok := check.Find(p, name)
		if !ok || !alike(f, p.Funcs[i]) {
			t.Errorf("%s: %+v, %t", name, f, ok)
		}
	}
	for _, name := range []string{"", "g", "F", "ff", "f ", "main"} {
		if f, ok := check.Find(p, name); ok || !reflect.DeepEqual(f, api.Func{}) {
			t.Errorf("%s: %+v, %t", name, f, ok)
		}
	}
	if _, ok := check.Find(api.Prog{}, "main"); ok {
		t.Error("found in nothing")
	}
}

// P9.4: the first global of a name.
func TestGlobal(t *testing.T) {
	p := program(t, "int g; int a[3]; int both[4]; int g[5]; int both() { } int f(int x) { int y; } int a;")
	for name, size := range map[string]int{"g": 0, "a": 3, "both": 4} {
		if g, ok := check.Global(p, name); !ok || g != (api.Global{Name: name, Size: size}) {
			t.Errorf("%s: %+v, %t", name, g, ok)
		}
	}
	for _, name := range []string{"", "f", "x", "y", "G", "aa", "a "} {
		if g, ok := check.Global(p, name); ok || g != (api.Global{}) {
			t.Errorf("%s: %+v, %t", name, g, ok)
		}
	}
	if g, ok := check.Global(api.Prog{}, "g"); ok || g != (api.Global{}) {
		t.Errorf("%+v, %t", g, ok)
	}
}

// Rule 4: what Find answers is new memory: neither turns with the other.
func TestFoundIsNew(t *testing.T) {
	const text = "int f(int x, int y) { { int z = 1 + -(2 * x); { ; z = f(a[z], y); } } if (x) print 1; else while (y) a[x] = f(1, x); }"
	p, kept := program(t, text), program(t, text)
	f, _ := check.Find(p, "f")
	turn(&f)
	if !alike(p.Funcs[0], kept.Funcs[0]) {
		t.Errorf("the program turned: %+v", p)
	}
	f, _ = check.Find(p, "f")
	turn(&p.Funcs[0])
	if !alike(f, kept.Funcs[0]) {
		t.Errorf("the answer turned: %+v", f)
	}
	p = program(t, text)
	p.Funcs[0].Params = append(p.Funcs[0].Params, "spare")[:2]
	f, _ = check.Find(p, "f")
	f.Params = append(f.Params, "other")
	if p.Funcs[0].Params[:3][2] != "spare" {
		t.Error("spare room was written to")
	}
}

// turn turns all that a function has, where it stands.
func turn(f *api.Func) {
	p := api.Prog{Funcs: []api.Func{*f}}
	exprs, stmts := nodes(&p)
	for i := range f.Params {
		f.Params[i] += "x"
	}
	for _, e := range exprs {
		e.Kind, e.Op, e.Num, e.Name = e.Kind+1, e.Op+1, e.Num+1, e.Name+"x"
	}
	for _, s := range stmts {
		s.Kind, s.Name = s.Kind+1, s.Name+"x"
	}
}
