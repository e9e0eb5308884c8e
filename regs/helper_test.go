package regs_test

import (
	"math/rand"
	"slices"
	"strconv"
	"strings"
	"testing"

	"brazier/api"
	"brazier/asm"
	"brazier/pick"
	"brazier/regs"
	"brazier/riscv"
	"brazier/sample"
	"brazier/word"
)

// A maker makes random functions between virtual registers.
type maker struct {
	*rand.Rand
	*sample.Maker
}

func newMaker(seed int64) *maker {
	r := rand.New(rand.NewSource(seed))
	return &maker{Rand: r, Maker: sample.New(r.Intn)}
}

func rounds(n int) int {
	if testing.Short() {
		return n / 10
	}
	return n
}

func one[T any](m *maker, l ...T) T { return l[m.Intn(len(l))] }

// vfn is the one function of a text (see sample.Vfns), which must be one that may be.
func vfn(t *testing.T, text string) api.Vfn {
	t.Helper()
	l := sample.Vfns(text)
	if len(l) != 1 || !pick.May(l[0]) {
		t.Fatalf("%s may not be: %+v", text, l)
	}
	return l[0]
}

// shown is numbers with a blank between two, a text a list.
func shown(l [][]int) string {
	var lines []string
	for _, regs := range l {
		var texts []string
		for _, r := range regs {
			texts = append(texts, strconv.Itoa(r))
		}
		lines = append(lines, strings.Join(texts, " "))
	}
	return strings.Join(lines, "; ")
}

// linked is a program as the machine has it, with as much stack as its calls may take; and the frames by the functions' names.
func linked(t *testing.T, p sample.Vprog) (api.Asm, map[string]int) {
	t.Helper()
	a, frames, most, words := api.Asm{Data: p.Globals}, map[string]int{}, 16, 0
	for _, g := range p.Globals {
		words += max(g.Size, 1)
	}
	var lines []api.Line
	for _, v := range p.Fns {
		l, frame := regs.Fn(v)
		lines = append(lines, l...)
		frames[v.Name] = frame
		most = max(most, frame)
	}
	a.Stack = api.MaxCalls * most
	high, low := word.Split(int32(65536 + 4*words + a.Stack))
	a.Lines = append([]api.Line{
		{Kind: api.LineLabel, Sym: ".start"},
		{Kind: api.LineIns, Op: api.Lui, D: 2, Num: high},
		{Kind: api.LineIns, Op: api.Addi, D: 2, A: 2, Num: low},
		{Kind: api.LineIns, Op: api.Jal, D: 1, Sym: "main"},
		{Kind: api.LineIns, Op: api.Addi, D: 17, Num: 3},
		{Kind: api.LineIns, Op: api.Ecall},
	}, lines...)
	return a, frames
}

func image(t *testing.T, a api.Asm) *riscv.Image {
	t.Helper()
	m, err := riscv.Load(a)
	if err != api.OK {
		t.Fatalf("%d: %s", err, asm.Print(a))
	}
	return m
}

// printed is a program's functions, as layer 15 prints them.
func printed(p sample.Vprog) string {
	var out strings.Builder
	for _, v := range p.Fns {
		out.WriteString(pick.Print(v))
	}
	return out.String()
}

// text is a function's lines.
func text(lines []api.Line) string { return asm.Print(api.Asm{Lines: lines}) }

// begins is whether a run, a, went on as b began: ended the same, if b ended.
func begins(a, b api.Result) bool {
	n := len(b.Trace)
	if len(a.Trace) < n || !slices.Equal(a.Trace[:n], b.Trace) {
		return false
	}
	return b.End == api.EndOpen || a.End == b.End && a.Value == b.Value && a.Reads == b.Reads && len(a.Trace) == n
}

// list is the words of a text, with blanks between them.
func list(text string) []int32 {
	var out []int32
	for _, s := range strings.Fields(text) {
		n, err := strconv.ParseInt(s, 10, 32)
		if err != nil {
			panic(err)
		}
		out = append(out, int32(n))
	}
	return out
}
