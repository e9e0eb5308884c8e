package asm_test

import (
	"fmt"
	"math"
	"regexp"
	"strconv"
	"strings"
	"testing"

	"brazier/api"
	"brazier/asm"
	"brazier/sample"
)

// P17.3: labels, and what is none.
func TestPrintLabel(t *testing.T) {
	printed(t, label("main"), "main:")
	printed(t, label(".main.0"), ".main.0:")
	printed(t, label(""), ":")
	printed(t, label("a b\n"), "a b\n:")
	printed(t, api.Line{Kind: api.LineLabel, Op: 1, D: 2, A: 3, B: 4, Num: 5, Sym: "x"}, "x:")
	for _, kind := range []int{0, -1, 3, math.MaxInt, math.MinInt, 1<<32 + 1} {
		printed(t, api.Line{Kind: kind, Op: api.Addi, D: 1, Sym: "x"}, "")
		printed(t, api.Line{Kind: kind}, "")
	}
	for _, op := range []int{0, -1, 31, 40, 53, math.MaxInt, math.MinInt} {
		printed(t, ins(op, 1, 2, 3, 4), "")
		printed(t, withSym(ins(op, 1, 2, 3, 4), "x"), "")
	}
}

// P17.3: each instruction.
func TestPrintIns(t *testing.T) {
	for i, form := range forms() {
		want := strings.NewReplacer("D", "5", "A", "17", "B", "31", "N", "-12").Replace(form)
		printed(t, ins(i+1, 5, 17, 31, -12), "\t"+want)
		want = strings.NewReplacer("D", "0", "A", "0", "B", "0", "N", "0").Replace(form)
		printed(t, ins(i+1, 0, 0, 0, 0), "\t"+want)
	}
	printed(t, ins(api.Addi, 5, 0, 0, -1), "\taddi x5, x0, -1")
	printed(t, ins(api.Lw, 9, 2, 0, 8), "\tlw x9, 8(x2)")
	printed(t, ins(api.Sw, 0, 2, 9, 8), "\tsw x9, 8(x2)")
	printed(t, withSym(ins(api.Jal, 1, 0, 0, 0), "f"), "\tjal x1, f")
	printed(t, ins(api.Ecall, 0, 0, 0, 0), "\tecall")
	printed(t, ins(api.Lui, 31, 0, 0, 1048575), "\tlui x31, 1048575")
	printed(t, ins(api.Beq, 0, 1, 2, -4096), "\tbeq x1, x2, -4096")
	printed(t, ins(api.Jal, 0, 0, 0, 1048574), "\tjal x0, 1048574")
	printed(t, ins(api.Jalr, 0, 1, 0, 0), "\tjalr x0, 0(x1)")
	printed(t, ins(api.Subs, 1, 2, 3, 0), "\tsub x1, x2, x3")
}

// P17.3: a symbol stands in Num's place, whether it may or not.
func TestPrintSym(t *testing.T) {
	for i, form := range forms() {
		op := i + 1
		text := "a.b"
		switch op {
		case api.Lui:
			text = "%hi(a.b)"
		case api.Addi:
			text = "%lo(a.b)"
		}
		want := "\t" + strings.NewReplacer("D", "1", "A", "2", "B", "3", "N", text).Replace(form)
		for _, num := range []int32{0, 7} {
			l := ins(op, 1, 2, 3, num)
			l.Sym = "a.b"
			printed(t, l, want)
		}
	}
	printed(t, withSym(ins(api.Lui, 5, 0, 0, 0), "g"), "\tlui x5, %hi(g)")
	printed(t, withSym(ins(api.Addi, 5, 6, 0, 0), "g"), "\taddi x5, x6, %lo(g)")
	printed(t, withSym(ins(api.Lw, 5, 6, 0, 0), "no symbol\n"), "\tlw x5, no symbol\n(x6)")
}

// P17.3, rule 9: a register that can't be one is printed as the word that is the same.
func TestPrintNumbers(t *testing.T) {
	printed(t, ins(api.Adds, -1, 1<<32+7, 1<<31, 9), "\tadd x-1, x7, x-2147483648")
	printed(t, ins(api.Lw, math.MaxInt, math.MinInt, 0, math.MinInt32), "\tlw x-1, -2147483648(x0)")
}

// patterns are those that were asked for: to make one takes longer than to match it.
var patterns = map[string]*regexp.Regexp{}

func matched(pattern, s string) []string {
	if patterns[pattern] == nil {
		patterns[pattern] = regexp.MustCompile(pattern)
	}
	return patterns[pattern].FindStringSubmatch(s)
}

// readAs is ParseLine, by the forms as patterns.
func readAs(s string) (api.Line, bool) {
	const symbol = `([A-Za-z_.][A-Za-z0-9_.]{0,99})`
	if m := matched(`^`+symbol+`:$`, s); m != nil {
		return label(m[1]), true
	}
	name, _, _ := strings.Cut(strings.TrimPrefix(s, "\t"), " ")
	for i, form := range forms() {
		if head, _, _ := strings.Cut(form, " "); head != name {
			continue
		}
		l := api.Line{Kind: api.LineIns, Op: i + 1}
		if readForm(&l, form, s, `(-?[0-9]+)`, func(text string) { l.Num = readNum(l.Op, text) }) && written(l) == s {
			return l, true
		}
		l = api.Line{Kind: api.LineIns, Op: i + 1}
		around := map[int]string{api.Lui: `%hi\(#\)`, api.Addi: `%lo\(#\)`, api.Jal: `#`}[l.Op]
		if around != "" && readForm(&l, form, s, strings.Replace(around, "#", symbol, 1), func(text string) { l.Sym = text }) {
			return l, true
		}
	}
	return api.Line{}, false
}

// readForm reads the registers, and tells num of what stands in Num's place.
func readForm(l *api.Line, form, s, place string, num func(string)) bool {
	const register = `(0|[1-9]|[12][0-9]|3[01])`
	pattern := strings.NewReplacer("(", `\(`, ")", `\)`, "D", register, "A", register, "B", register, "N", place).Replace(form)
	m := matched(`^\t`+pattern+`$`, s)
	if m == nil {
		return false
	}
	at := 1
	for _, c := range form {
		if !strings.ContainsRune("DABN", c) {
			continue
		}
		n, _ := strconv.Atoi(m[at])
		switch c {
		case 'D':
			l.D = n
		case 'A':
			l.A = n
		case 'B':
			l.B = n
		case 'N':
			num(m[at])
		}
		at++
	}
	return true
}

// readNum is a number that an instruction may have: one that is printed otherwise, if it may not.
func readNum(op int, text string) int32 {
	from, to, by := sample.Range(numLetter(op))
	n, err := strconv.ParseInt(text, 10, 64)
	if err != nil || n < int64(from) || n > int64(to) || n%int64(by) != 0 {
		return math.MinInt32
	}
	return int32(n)
}

// written is how an instruction is printed without a symbol.
func written(l api.Line) string {
	return "\t" + strings.NewReplacer("D", fmt.Sprint(l.D), "A", fmt.Sprint(l.A), "B", fmt.Sprint(l.B), "N", fmt.Sprint(l.Num)).Replace(forms()[l.Op-1])
}

// P17.3: texts that are a line's, and texts that aren't.
func TestParseLine(t *testing.T) {
	for text, want := range map[string]api.Line{
		"main:": label("main"), ".:": label("."), "lui:": label("lui"), "x1:": label("x1"),
		"\taddi x5, x0, -1": ins(api.Addi, 5, 0, 0, -1), "\tlw x9, 8(x2)": ins(api.Lw, 9, 2, 0, 8), "\tsw x9, -2048(x2)": ins(api.Sw, 0, 2, 9, -2048), "\tjal x1, f": withSym(ins(api.Jal, 1, 0, 0, 0), "f"), "\tjal x1, x1": withSym(ins(api.Jal, 1, 0, 0, 0), "x1"), "\tecall": ins(api.Ecall, 0, 0, 0, 0),
		"\tlui x1, %hi(g)": withSym(ins(api.Lui, 1, 0, 0, 0), "g"), "\taddi x1, x2, %lo(g)": withSym(ins(api.Addi, 1, 2, 0, 0), "g"), "\tlui x1, 1048575": ins(api.Lui, 1, 0, 0, 1048575), "\tbne x31, x30, 4094": ins(api.Bne, 0, 31, 30, 4094), "\tjalr x0, 0(x1)": ins(api.Jalr, 0, 1, 0, 0),
	} {
		if got, there := asm.ParseLine(text); !there || got != want {
			t.Errorf("%q: %+v, %v; want %+v", text, got, there, want)
		}
	}
	for _, text := range []string{
		"", ":", "main", "main::", "main: ", " main:", "\tmain:", "1:", "a b:", "main:\n", "\t", "\t ", " ecall", "ecall", "\tecall ", "\tecall x0", "\tecall\n", "\tECALL", "\t\tecall", "\t ecall", "\tnop", "\tmv x1, x2",
		"\taddi", "\taddi ", "\taddi x5", "\taddi x5, x0", "\taddi x5, x0, ", "\taddi x5, x0, -1 ", "\taddi x5, x0, -1, ", "\taddi x5, x0, -1, x1", "\taddi x5,x0,-1", "\taddi  x5, x0, -1", "\taddi x5 , x0, -1", "\taddi x5, x0, +1", "\taddi x5, x0, 01", "\taddi x5, x0, -0", "\taddi x5, x0, 0x1", "\taddi x5, x0, 2048", "\taddi x5, x0, -2049", "\taddi x32, x0, 1", "\taddi x05, x0, 1", "\taddi x-1, x0, 1", "\taddi 5, x0, 1", "\taddi x, x0, 1", "\taddi xx5, x0, 1", "\taddi t0, x0, 1", "\taddi x5, x0, g", "\taddi x5, x0, %hi(g)", "\taddi x5, x0, %lo(g", "\taddi x5, x0, lo(g)", "\taddi x5, x0, %lo(1)", "\taddi x5, x0, %lo()", "\taddi x5, x0, %lo((g))", "\taddi x5, x0, %lo(%lo(g))", "addi x5, x0, 1", " addi x5, x0, 1", "\taddi x5, x0, 4294967296", "\taddi x5, x0, 99999999999999999999",
		"\tlui x1, -1", "\tlui x1, 1048576", "\tlui x1, g", "\tlui x1, %lo(g)", "\tlui x1, x2, 3", "\tlw x1, 8", "\tlw x1, (x2)", "\tlw x1, 8(x2", "\tlw x1, 8(2)", "\tlw x1, 8 (x2)", "\tlw x1, 8(x2))", "\tlw x1, 8(x2)(x3)", "\tlw x1, g(x2)", "\tlw x1, x2, 8", "\tsw x1, x2, 8", "\tbeq x1, x2, 3", "\tbeq x1, x2, 4096", "\tbeq x1, x2, f", "\tjal x1, 1", "\tjal x1, 1048576", "\tjal x1, ", "\tjal x1, -", "\tjal f", "\tjal x1, %hi(f)", "\tjal x1, a b", "\tjal x1, -a", "\tjalr x1, 0, x2", "\tslli x1, x2, 32", "\tslli x1, x2, -1", "\tadd x1, x2", "\tadd x1, x2, 3", "\tadd x1, x2, x3, x4", "\tadds x1, x2, x3",
		"#", "\taddi x5, x0, -1\r", "\x00", "\t\x00", ".word g 0", ".stack 16", strings.Repeat("x", 101) + ":", "\tjal x1, " + strings.Repeat("x", 101),
	} {
		if got, there := asm.ParseLine(text); there || !isZero(got) {
			t.Errorf("%q: %+v, %v", text, got, there)
		}
	}
}

// P17.2, P17.3, P17.6: random lines, some of them bent.
func TestRandomLines(t *testing.T) {
	m := newMaker(171)
	no := 0
	for range rounds(20000) {
		l := m.Line()
		may(t, l, true)
		m.BendLine(&l)
		want := mayBe(l)
		may(t, l, want)
		if !want {
			no++
		}
		if l.Kind == api.LineIns && l.Sym == "" && l.Op >= 1 && l.Op <= sample.Ops {
			wrapped := l
			wrapped.D, wrapped.A, wrapped.B = int(int32(l.D)), int(int32(l.A)), int(int32(l.B))
			printed(t, l, written(wrapped))
		}
	}
	if no < rounds(8000) {
		t.Error(no)
	}
}

// mayBe is MayLine, by the list of fields.
func mayBe(l api.Line) bool {
	isSym := matched(`^[A-Za-z_.][A-Za-z0-9_.]{0,99}$`, l.Sym) != nil
	if l.Kind != api.LineIns {
		return isSym && l == api.Line{Kind: api.LineLabel, Sym: l.Sym}
	}
	if l.Op < 1 || l.Op > sample.Ops {
		return false
	}
	for field, n := range map[byte]int{'D': l.D, 'A': l.A, 'B': l.B} {
		if n < 0 || n > 31 || n > 0 && !has(sample.Fields(l.Op), field) {
			return false
		}
	}
	from, to, by := sample.Range(numLetter(l.Op))
	if l.Num < from || l.Num > to || l.Num%by != 0 {
		return false
	}
	return l.Sym == "" || isSym && l.Num == 0 && (l.Op == api.Lui || l.Op == api.Addi || l.Op == api.Jal)
}

// P17.3: random texts, near those of lines, are read as the patterns say.
func TestRandomTexts(t *testing.T) {
	m := newMaker(172)
	found := 0
	for range rounds(20000) {
		text := asm.PrintLine(m.Line())
		for range m.Intn(3) {
			text = spoilt(m, text)
		}
		want, is := readAs(text)
		got, there := asm.ParseLine(text)
		if there != is || got != want {
			t.Fatalf("%q: %+v, %v; want %+v, %v", text, got, there, want, is)
		}
		if there {
			found++
		}
	}
	if found < rounds(8000) || found > rounds(19000) {
		t.Error(found)
	}
}

// spoilt is a line's or a program's text with something of it turned.
func spoilt(m *maker, s string) string {
	return m.Spoilt(s, "\t", " ", ", ", ":", "x", "0", "1", "9", "-", "(", ")", ".", "_", "a", "%hi(", "%lo(", "\n", "32", "x5", "add", "é", "")
}
