package riscv_test

import (
	"math/rand"
	"reflect"
	"slices"
	"strconv"
	"strings"
	"testing"

	"brazier/api"
	"brazier/asm"
	"brazier/riscv"
	"brazier/sample"
)

// plenty is more steps than the programs of the tables take.
const plenty = 100000

// A maker makes random lines and programs.
type maker struct {
	*rand.Rand
	*sample.Maker
}

func newMaker(seed int64) *maker {
	r := rand.New(rand.NewSource(seed))
	return &maker{Rand: r, Maker: sample.New(r.Intn)}
}

func rounds(n int) int {
	if testing.Short() {
		return n / 10
	}
	return n
}

func one[T any](m *maker, l ...T) T { return l[m.Intn(len(l))] }

// word is any, mostly one at or beside an end of what instructions ask.
func (m *maker) word() int32 {
	return one(m, 0, 1, -1, 2, -2, 31, 32, 33, -31, -32, 2047, -2048, 65536, 65540, -2147483648, -2147483647, 2147483647, int32(m.Uint32()), int32(m.Uint32()), int32(m.Intn(40)))
}

// program is one of a text: a ; stands for a line end, with a tab behind it but ahead of labels, and a label's line goes on. Without a .stack it has none.
func program(t *testing.T, text string) api.Asm {
	t.Helper()
	var out strings.Builder
	if !strings.Contains(text, ".stack") {
		out.WriteString(".stack 0\n")
	}
	for _, line := range strings.Split(strings.ReplaceAll(text, ": ", ":;"), ";") {
		line = strings.TrimSpace(line)
		switch {
		case line == "":
			continue
		case !strings.HasSuffix(line, ":") && !strings.HasPrefix(line, ".word ") && !strings.HasPrefix(line, ".stack "):
			line = "\t" + line
		}
		out.WriteString(line + "\n")
	}
	a, err, n := asm.Parse(out.String())
	if err != api.OK {
		t.Fatalf("line %d of %q", n, out.String())
	}
	return a
}

func image(t *testing.T, a api.Asm) *riscv.Image {
	t.Helper()
	m, err := riscv.Load(a)
	if err != api.OK || m == nil {
		t.Fatalf("%+v: %d", a, err)
	}
	return m
}

func loaded(t *testing.T, text string) *riscv.Image {
	t.Helper()
	return image(t, program(t, text))
}

// list is the words of a text, with blanks between them.
func list(text string) []int32 {
	var out []int32
	for _, s := range strings.Fields(text) {
		n, err := strconv.ParseInt(s, 10, 32)
		if err != nil {
			panic(err)
		}
		out = append(out, int32(n))
	}
	return out
}

// equal is whether all fields are the same, an empty trace and none being one.
func equal(a, b api.Result) bool {
	same := slices.Equal(a.Trace, b.Trace)
	a.Trace, b.Trace = nil, nil
	return same && reflect.DeepEqual(a, b)
}

// ends tells how a text's run with that input ends.
func ends(t *testing.T, text, input string, fuel int, want api.Result) {
	t.Helper()
	if got := loaded(t, text).Run(list(input), fuel); !equal(got, want) {
		t.Errorf("%s with %q, %d: %+v; want %+v", text, input, fuel, got, want)
	}
}

// done is a run that ended with that value, and that trace, behind so many steps and words of the input.
func done(value int32, printed string, steps, reads int) api.Result {
	return api.Result{End: api.EndDone, Value: value, Trace: list(printed), Steps: steps, Reads: reads}
}

func fault(printed string, steps, reads int) api.Result {
	return api.Result{End: api.EndFault, Trace: list(printed), Steps: steps, Reads: reads}
}

func open(printed string, steps, reads int) api.Result {
	return api.Result{End: api.EndOpen, Trace: list(printed), Steps: steps, Reads: reads}
}

// leaves ends a program with what register 10 is: in two steps.
const leaves = "; addi x17, x0, 3; ecall"
