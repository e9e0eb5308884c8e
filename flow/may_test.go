package flow_test

import (
	"math"
	"slices"
	"strconv"
	"strings"
	"testing"

	"brazier/api"
	"brazier/flow"
	"brazier/sample"
)

// mayMid tells whether a program may be.
func mayMid(t *testing.T, m api.Mid, want bool) {
	t.Helper()
	if got := flow.May(m); got != want {
		t.Errorf("%+v: %v; want %v", m, got, want)
	}
}

const lone = "fn main 0 1; block 0; return r0; "

// P11.2: functions, each of which may be, with names of their own; one of them main.
func TestMayFns(t *testing.T) {
	for text, want := range map[string]bool{
		"": false, lone: true, lone + lone: false, "fn f 0 1; block 0; return r0": false, "fn main 1 1; block 0; return r0": false, "fn Main 0 1; block 0; return r0": false,
		lone + "fn f 1 1; block 0; return r0": true, "fn f 1 1; block 0; return r0; " + lone: true, lone + "fn f 1 1; block 0; return r0; fn f 0 1; block 0; return r0": false,
		lone + "fn g 0 1; block 0; return r0": false, lone + "fn a 0 1; block 0; return r0": false, lone + "fn c 0 1; block 0; return r0": true,
		lone + "fn f 0 1; block 0; return r1": false, "fn f 0 0; block 0; return r0; " + lone: false, "fn main 0 1; block 0; return r1": false, "fn main 0 1": false, lone + "fn f 0 1": false,
		"fn main 8 8; block 0; return r0; " + lone: false, lone + "fn main 1 1; block 0; return r0": false,
	} {
		mayMid(t, sample.Mid(text), want)
	}
	many := api.Mid{Fns: sample.Blocks(lone)}
	for i := range 200 {
		f := many.Fns[0]
		f.Name = "f" + strconv.Itoa(i)
		many.Fns = append(many.Fns, f)
	}
	mayMid(t, many, true)
	many.Fns = append(many.Fns, many.Fns[77])
	mayMid(t, many, false)
}

// P11.2: globals.
func TestMayGlobals(t *testing.T) {
	word := func(name string) api.Global { return api.Global{Name: name} }
	array := func(name string, size int) api.Global { return api.Global{Name: name, Size: size} }
	full := []api.Global{array("a", 4096), array("b", 4096), array("c", 4096), array("d", 4096)}
	for _, c := range []struct {
		l    []api.Global
		want bool
	}{
		{nil, true}, {[]api.Global{}, true}, {[]api.Global{word("x")}, true}, {[]api.Global{array("x", 1)}, true}, {[]api.Global{array("x", 4096)}, true}, {[]api.Global{array("x", 4097)}, false}, {[]api.Global{array("x", -1)}, false}, {[]api.Global{array("x", math.MaxInt)}, false}, {[]api.Global{array("x", math.MinInt)}, false},
		{[]api.Global{word("")}, false}, {[]api.Global{word("int")}, false}, {[]api.Global{word("1")}, false}, {[]api.Global{word("x y")}, false}, {[]api.Global{word(strings.Repeat("x", 64))}, true}, {[]api.Global{word(strings.Repeat("x", 65))}, false},
		{[]api.Global{word("x"), word("x")}, false}, {[]api.Global{word("x"), array("x", 2)}, false}, {[]api.Global{array("x", 2), word("y"), array("x", 2)}, false}, {[]api.Global{word("x"), word("X")}, true}, {[]api.Global{word("main")}, false}, {[]api.Global{array("main", 2)}, false},
		{full, true}, {append(slices.Clone(full), word("e")), false}, {append(slices.Clone(full), array("e", 1)), false}, {append(slices.Clone(full[:3]), array("e", 4095)), true}, {append(slices.Clone(full[:3]), array("e", 4095), word("f")), true}, {append(slices.Clone(full[:3]), array("e", 4095), array("f", 1)), true}, {append(slices.Clone(full[:3]), array("e", 4095), word("f"), word("g")), false}, {append(slices.Clone(full[:3]), array("e", 4095), array("f", 2)), false},
	} {
		mayMid(t, api.Mid{Globals: c.l, Fns: sample.Blocks(lone)}, c.want)
		mayMid(t, api.Mid{Globals: c.l}, false)
	}
	var most []api.Global
	for i := range 64 {
		most = append(most, word("x"+strconv.Itoa(i)))
	}
	mayMid(t, api.Mid{Globals: most, Fns: sample.Blocks(lone)}, true)
	mayMid(t, api.Mid{Globals: append(most, word("y")), Fns: sample.Blocks(lone)}, false)
}

// P11.2: what the names of instructions are.
func TestMayNamesOfMid(t *testing.T) {
	const others = "fn f 0 1; block 0; return r0; fn two 2 2; block 0; return r0; "
	for ins, want := range map[string]bool{
		"r0 = g": true, "r0 = h": true, "r0 = a": false, "r0 = x": false, "r0 = f": false, "r0 = main": false,
		"r0 = a[r1]": true, "r0 = b[r1]": true, "r0 = g[r1]": false, "r0 = x[r1]": false, "r0 = f[r1]": false,
		"g = r0": true, "h = r0": true, "a = r0": false, "x = r0": false, "two = r0": false,
		"a[r1] = r0": true, "b[r1] = r0": true, "g[r1] = r0": false, "x[r0] = r1": false, "two[r1] = r1": false,
		"r0 = f()": true, "f()": true, "main()": true, "r1 = main()": true, "r0 = f(r0)": false, "main(r0)": false, "two(r0, r1)": true, "r1 = two(r0, r0)": true, "two()": false, "two(r0)": false, "r0 = two(r0, r0, r0)": false, "g()": false, "a()": false, "r0 = x()": false,
		"r0 = num 1": true, "r0 = read": true, "print r1": true, "r0 = -r1": true, "r0 = r1 / r0": true, "r0 = r1": true,
	} {
		mayMid(t, sample.Mid(others+"fn main 0 2; block 0; "+ins+"; return r0"), want)
		mayMid(t, sample.Mid("fn main 0 2; block 0; jump 1; block 1; r0 = num 1; "+ins+"; jump 0; "+others), want)
		mayMid(t, sample.Mid(lone+others+"fn last 1 2; block 0; print r0; "+ins+"; "+ins+"; branch r0 0 0"), want)
	}
	mayMid(t, sample.Mid(lone+"fn f 1 2; block 0; r0 = f(r1); return r0; fn k 0 1; block 0; f(r0); return r0"), true)
	mayMid(t, sample.Mid(lone+"fn f 1 2; block 0; r0 = k(); return r0; fn k 0 1; block 0; f(); return r0"), false)
}

// P11.2: examples of programs that may be and of what is wrong with them, at random.
func TestMayRandom(t *testing.T) {
	m := newMaker(12)
	yes, no, deep := 0, 0, 0
	for range rounds(40000) {
		p := sample.CopyMid(m.Mid())
		for range m.Intn(3) {
			m.bend(&p)
		}
		want := mayAll(p)
		mayMid(t, p, want)
		if t.Failed() {
			t.FailNow()
		}
		if want {
			yes++
		} else {
			no++
		}
		if !want && !slices.ContainsFunc(p.Fns, func(f api.Fn) bool { return !mayBe(f) }) {
			deep++
		}
	}
	if yes < rounds(8000) || no < rounds(8000) || deep < rounds(1000) {
		t.Error(yes, no, deep)
	}
}

// mayAll is May: each name that is told has one meaning, written as a text, and is used so.
func mayAll(m api.Mid) bool {
	is, words, ok := map[string]string{}, 0, len(m.Globals) <= 64
	tell := func(name, meaning string) {
		ok = ok && is[name] == "" && isName(name)
		is[name] = meaning
	}
	for _, g := range m.Globals {
		ok = ok && g.Size >= 0 && g.Size <= 4096
		words += max(1, min(g.Size, 4096))
		tell(g.Name, map[bool]string{true: "word", false: "array"}[g.Size == 0])
	}
	for _, f := range m.Fns {
		ok = ok && mayBe(f)
		tell(f.Name, "function of "+strconv.Itoa(f.Params))
	}
	for _, f := range m.Fns {
		for _, b := range f.Blocks {
			for _, x := range b.Ins {
				ok = ok && is[x.Name] == asked(x)
			}
		}
	}
	return ok && is["main"] == "function of 0" && words <= 16384
}

// asked is what the name of an instruction must mean.
func asked(x api.Ins) string {
	switch {
	case x.Kind == api.InCall:
		return "function of " + strconv.Itoa(len(x.Args))
	case x.Kind != api.InLoad && x.Kind != api.InStore:
		return ""
	case x.A < 0:
		return "word"
	}
	return "array"
}
