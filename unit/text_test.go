package unit_test

import (
	"math"
	"slices"
	"strconv"
	"strings"
	"testing"

	"brazier/api"
	"brazier/asm"
	"brazier/sample"
	"brazier/unit"
)

const whole = ".unit f 32\nf:\n\taddi x2, x2, -32\n.f.0:\n\tlui x7, %hi(g)\n\tjal x0, .f.0\n\tjal x1, main\n\tecall\n"

func wholeUnit() api.Unit {
	lui, call := ins(api.Lui, 7, 0, 0, 0), jal("main")
	lui.Sym, call.D = "g", 1
	return unitOf("f", 32, ins(api.Addi, 2, 2, 0, -32), label(".f.0"), lui, jal(".f.0"), call, ins(api.Ecall, 0, 0, 0, 0))
}

// P20.2: the lines of a unit, of one that may not be by the same words.
func TestPrint(t *testing.T) {
	for want, u := range map[string]api.Unit{
		whole:                             wholeUnit(),
		".unit main 16\nmain:\n":          unitOf("main", 16),
		".unit  0\n":                      {},
		".unit f 262144\n":                {Name: "f", Frame: 1 << 18},
		".unit a b\n -1\n\n:\n\n":         {Name: "a b\n", Frame: -1, Lines: []api.Line{{}, label(""), {Kind: api.LineIns}}},
		".unit f 5\ng:\n":                 {Name: "f", Frame: 1<<32 + 5, Lines: []api.Line{label("g")}},
		".unit f -2147483648\n":           {Name: "f", Frame: 1 << 31},
		".unit f -1\n\tjal x0, 8\n":       {Name: "f", Frame: math.MaxInt, Lines: []api.Line{ins(api.Jal, 0, 0, 0, 8)}},
		".unit f 0\n\tadd x1, x2, x3\n":   {Name: "f", Frame: math.MinInt, Lines: []api.Line{ins(api.Adds, 1, 2, 3, 0)}},
		".unit  16\n.f.0:\n\tjal x0, 0\n": {Frame: 16, Lines: []api.Line{label(".f.0"), jal("")}},
	} {
		if got := unit.Print(u); got != want {
			t.Errorf("%+v: %q; want %q", u, got, want)
		}
	}
}

// P20.2: the head, and layer 17's lines.
func TestPrintRandom(t *testing.T) {
	m := newMaker(206)
	for range rounds(3000) {
		u := m.Unit()
		for range m.Intn(3) {
			m.BendUnit(&u)
		}
		lines := []string{".unit " + u.Name + " " + strconv.Itoa(int(int32(u.Frame)))}
		for _, l := range u.Lines {
			lines = append(lines, asm.PrintLine(l))
		}
		if want := strings.Join(lines, "\n") + "\n"; unit.Print(u) != want {
			t.Fatalf("%q; want %q", unit.Print(u), want)
		}
	}
}

// P20.2: what is read.
func TestParse(t *testing.T) {
	for text, want := range map[string]api.Unit{
		whole:                                  wholeUnit(),
		".unit main 16\nmain:\n":               unitOf("main", 16),
		".unit f 262144\nf:\n.f.:\n":           unitOf("f", 1<<18, label(".f.")),
		".unit x1 48\nx1:\n\tjal x1, x1\n":     unitOf("x1", 48, api.Line{Kind: api.LineIns, Op: api.Jal, D: 1, Sym: "x1"}),
		".unit f 16\nf:\n\tjalr x0, 0(x1)\n":   unitOf("f", 16, ins(api.Jalr, 0, 1, 0, 0)),
		".unit f 16\nf:\n\tbeq x0, x0, 4094\n": unitOf("f", 16, ins(api.Beq, 0, 0, 0, 4094)),
	} {
		if got, is := unit.Parse(text); !is || !unit.Same(got, want) {
			t.Errorf("%q: %+v, %v; want %+v", text, got, is, want)
		}
	}
}

// P20.2: texts that are none's.
func TestParseWrong(t *testing.T) {
	texts := []string{
		"", "\n", "\n\n", " ", ".unit", ".unit\n", ".unit f\n", ".unit f 16", ".unit f 16\n", ".unit f 16\nf:", ".unit f 16\n\nf:\n", ".unit f 16\nf:\n\n", ".unit f 16\nf:\n\n\tecall\n", "\n.unit f 16\nf:\n", ".unit f 16\nf:\nf:\n", ".unit f 16\nf:\n\tecall", ".unit f 16\nf:\n\tecall\n\n",
		".unit f 16 \nf:\n", ".unit  f 16\nf:\n", ".unit f  16\nf:\n", " .unit f 16\nf:\n", "\t.unit f 16\nf:\n", ".unit\tf 16\nf:\n", ".unit f 16 0\nf:\n", ".unit f 16\n f:\n", ".unit f 16\nf: \n", ".unit f 16\r\nf:\r\n", ".unit f 16\r\nf:\n", ".unit f 16\nf:\r\n",
		"unit f 16\nf:\n", ".Unit f 16\nf:\n", ".units f 16\nf:\n", ".word f 16\nf:\n", ".stack 16\nf:\n", "f 16\nf:\n", "f:\n", ".unit 16 f\nf:\n",
		".unit f 0\nf:\n", ".unit f 8\nf:\n", ".unit f 17\nf:\n", ".unit f 016\nf:\n", ".unit f +16\nf:\n", ".unit f -16\nf:\n", ".unit f 262160\nf:\n", ".unit f 0x10\nf:\n", ".unit f x\nf:\n", ".unit f 16.0\nf:\n", ".unit f 4294967312\nf:\n", ".unit f 1e2\nf:\n", ".unit f \nf:\n",
		".unit g 16\nf:\n", ".unit int 16\nint:\n", ".unit 1f 16\n1f:\n", ".unit .f 16\n.f:\n", ".unit f.0 16\nf.0:\n", ".unit é 16\né:\n", ".unit  16\n:\n",
		".unit f 16\nf:\n\tnop\n", ".unit f 16\nf:\ng:\n", ".unit f 16\nf:\n.f.0:\n.f.0:\n", ".unit f 16\nf:\n.g.0:\n", ".unit f 16\nf:\n\tjal x0, .f.0\n", ".unit f 16\nf:\n\tjal x0, 4\n", ".unit f 16\nf:\n\tjal x0, int\n", ".unit f 16\nf:\n\taddi x5, x0, 2048\n", ".unit f 16\nf:\n\taddi  x5, x0, 1\n", ".unit f 16\n\tecall\nf:\n",
		".unit f 16\nf:\n.unit f 16\nf:\n", ".unit f 16\nf:\n.unit g 16\ng:\n", whole + whole, whole + "\n", whole + " ", whole + "\x00", "\x00" + whole, strings.TrimSuffix(whole, "\n"), strings.ToUpper(whole),
	}
	for _, text := range texts {
		if got, is := unit.Parse(text); is || !unit.Same(got, api.Unit{}) {
			t.Errorf("%q: %+v, %v", text, got, is)
		}
	}
	for n := range whole { // a part of it is one only where the places that are gone to are there
		want := slices.Contains([]string{".unit f 32\nf:\n", ".unit f 32\nf:\n\taddi x2, x2, -32\n"}, whole[:n]) || n > strings.Index(whole, ".f.0:") && whole[n-1] == '\n'
		if got, is := unit.Parse(whole[:n]); is != want || !is && !unit.Same(got, api.Unit{}) {
			t.Errorf("%q: %+v, %v", whole[:n], got, is)
		}
	}
}

// readAs is Parse, by the text cut at its line ends.
func readAs(s string) (api.Unit, bool) {
	lines := strings.Split(s, "\n")
	if lines[len(lines)-1] != "" || len(lines) < 3 {
		return api.Unit{}, false
	}
	words := strings.Split(lines[0], " ")
	if len(words) != 3 || words[0] != ".unit" {
		return api.Unit{}, false
	}
	frame, err := strconv.ParseInt(words[2], 10, 32)
	if err != nil || strconv.FormatInt(frame, 10) != words[2] {
		return api.Unit{}, false
	}
	u := api.Unit{Name: words[1], Frame: int(frame)}
	for _, line := range lines[1 : len(lines)-1] {
		l, is := asm.ParseLine(line)
		if !is {
			return api.Unit{}, false
		}
		u.Lines = append(u.Lines, l)
	}
	if !mayBe(u) {
		return api.Unit{}, false
	}
	return u, true
}

// P20.2: random texts, near those of units.
func TestRandomTexts(t *testing.T) {
	m := newMaker(207)
	found := 0
	for range rounds(20000) {
		text := unit.Print(m.Unit())
		for range m.Intn(3) {
			text = m.Spoilt(text, "\t", " ", ", ", ":", "x", "0", "1", "6", "-", ".", "f", ".f.0", "%hi(", "\n", "\r", "32", ".unit", "é", "")
		}
		if m.Intn(5) == 0 {
			text = text[:m.Intn(len(text)+1)]
		}
		want, is := readAs(text)
		got, there := unit.Parse(text)
		if there != is || !unit.Same(got, want) {
			t.Fatalf("%q: %+v, %v; want %+v, %v", text, got, there, want, is)
		}
		if is {
			if unit.Print(got) != text || !unit.May(got) {
				t.Fatalf("%q: %+v", text, got)
			}
			found++
		}
	}
	if found < rounds(4000) || found > rounds(16000) {
		t.Error(found)
	}
}

// P20.2: are all fields the same?
func TestSame(t *testing.T) {
	turns := map[string]func(u *api.Unit){
		"Name": func(u *api.Unit) { u.Name = "g" }, "no Name": func(u *api.Unit) { u.Name = "" }, "Frame": func(u *api.Unit) { u.Frame = 48 }, "a Frame that is the same word": func(u *api.Unit) { u.Frame += 1 << 32 },
		"no lines": func(u *api.Unit) { u.Lines = nil }, "a line less": func(u *api.Unit) { u.Lines = u.Lines[:3] }, "the first line less": func(u *api.Unit) { u.Lines = u.Lines[1:] }, "a line more": func(u *api.Unit) { u.Lines = append(u.Lines, api.Line{}) }, "another order": func(u *api.Unit) { u.Lines[1], u.Lines[2] = u.Lines[2], u.Lines[1] },
		"Kind": func(u *api.Unit) { u.Lines[0].Kind = 2 }, "Op": func(u *api.Unit) { u.Lines[1].Op = 3 }, "D": func(u *api.Unit) { u.Lines[1].D = 3 }, "A": func(u *api.Unit) { u.Lines[1].A = 1 }, "B": func(u *api.Unit) { u.Lines[1].B = 1 }, "Num": func(u *api.Unit) { u.Lines[1].Num = 4 }, "Sym": func(u *api.Unit) { u.Lines[4].Sym = "f" }, "the last": func(u *api.Unit) { u.Lines[6].Num = 1 },
	}
	for what, turn := range turns {
		a, b := wholeUnit(), wholeUnit()
		if !unit.Same(a, b) || !unit.Same(a, a) {
			t.Error("a copy is the same")
		}
		turn(&b)
		if unit.Same(a, b) || unit.Same(b, a) {
			t.Errorf("%s: not the same", what)
		}
	}
	if !unit.Same(api.Unit{}, api.Unit{Lines: []api.Line{}}) || !unit.Same(api.Unit{Lines: []api.Line{}}, api.Unit{}) {
		t.Error("nil and empty lists are one")
	}
}

// Rules 4 and 6: what is handed in stays as it is, its spare room too; answers are new memory.
func TestArgumentsStay(t *testing.T) {
	m := newMaker(4)
	for range rounds(2000) {
		u := m.Unit()
		u.Lines = append(slices.Grow(u.Lines, 2), label("spare"))[:len(u.Lines)]
		kept := sample.CopyUnit(u)
		text := unit.Print(u)
		first, _ := unit.Parse(text)
		unit.May(u)
		unit.Same(u, first)
		clear(first.Lines[:cap(first.Lines)])
		if again, _ := unit.Parse(text); !unit.Same(again, kept) || !unit.Same(u, kept) || unit.Print(u) != text {
			t.Fatalf("%+v, %+v; was %+v", again, u, kept)
		}
		if u.Lines[:len(u.Lines)+1][len(u.Lines)].Sym != "spare" {
			t.Fatal("the spare room was used")
		}
	}
}

// Rule 1: any arguments have an answer.
func TestAnyUnits(t *testing.T) {
	m := newMaker(5)
	numbers := []int{math.MinInt, math.MinInt32, -1, 0, 1, 2, 16, 28, 31, 32, math.MaxInt32, math.MaxInt}
	texts := []string{"", "f", "1", ".f.0", "\x00", "\xff", "%hi()", "\n", strings.Repeat("é", 300)}
	for range rounds(5000) {
		u := api.Unit{Name: one(m, texts...), Frame: one(m, numbers...)}
		for range m.Intn(4) {
			u.Lines = append(u.Lines, api.Line{Kind: one(m, 1, 2, 2, one(m, numbers...)), Op: one(m, numbers...), D: one(m, numbers...), A: one(m, numbers...), B: one(m, numbers...), Num: int32(one(m, numbers...)), Sym: one(m, texts...)})
		}
		may(t, u, mayBe(u))
	}
	for _, text := range []string{strings.Repeat("\n", 1<<16), ".unit f 16\nf:\n" + strings.Repeat("\tecall\n", 1<<15) + "\n", ".unit" + strings.Repeat(" ", 1<<16), strings.Repeat("f:\n", 1<<15)} {
		if u, is := unit.Parse(text); is || !unit.Same(u, api.Unit{}) {
			t.Errorf("%.30q: %v", text, is)
		}
	}
	if u, is := unit.Parse(".unit f 16\nf:\n" + strings.Repeat("\tecall\n", 1<<15)); !is || len(u.Lines) != 1<<15+1 {
		t.Error(is, len(u.Lines))
	}
}
