package flow_test

import (
	"fmt"
	"math"
	"reflect"
	"strings"
	"testing"

	"brazier/api"
	"brazier/flow"
	"brazier/sample"
	"brazier/syntax"
)

// printed tells how an instruction stands in a function's printing.
func printed(t *testing.T, x api.Ins, want string) {
	t.Helper()
	f := api.Fn{Name: "f", Regs: 3, Blocks: []api.Block{{Ins: []api.Ins{x}, Kind: api.BlReturn, A: 2}}}
	if got := flow.Print(f); got != "fn f 0 3\nblock 0\n\t"+want+"\n\treturn r2\n" {
		t.Errorf("%+v: %q; want %q", x, got, want)
	}
}

// ended tells how a block's end stands there.
func ended(t *testing.T, b api.Block, want string) {
	t.Helper()
	f := api.Fn{Name: "f", Params: 1, Regs: 1, Blocks: []api.Block{b}}
	if got := flow.Print(f); got != "fn f 1 1\nblock 0\n\t"+want+"\n" {
		t.Errorf("%+v: %q; want %q", b, got, want)
	}
}

// P11.4: the instructions.
func TestPrintIns(t *testing.T) {
	printed(t, api.Ins{Kind: api.InNum, D: 1, A: -1, B: -1, Num: 20}, "r1 = num 20")
	printed(t, api.Ins{Kind: api.InNum, D: 0, A: -1, B: -1, Num: math.MinInt32}, "r0 = num -2147483648")
	printed(t, api.Ins{Kind: api.InNum, D: 4095, A: -1, B: -1}, "r4095 = num 0")
	printed(t, api.Ins{Kind: api.InCopy, D: 1, A: 2, B: -1}, "r1 = r2")
	printed(t, api.Ins{Kind: api.InLoad, D: 1, A: -1, B: -1, Name: "g"}, "r1 = g")
	printed(t, api.Ins{Kind: api.InLoad, D: 1, A: 0, B: -1, Name: "a"}, "r1 = a[r0]")
	printed(t, api.Ins{Kind: api.InLoad, D: 1, A: 12, B: -1, Name: "a"}, "r1 = a[r12]")
	printed(t, api.Ins{Kind: api.InStore, D: -1, A: -1, B: 0, Name: "g"}, "g = r0")
	printed(t, api.Ins{Kind: api.InStore, D: -1, A: 0, B: 2, Name: "a"}, "a[r0] = r2")
	printed(t, api.Ins{Kind: api.InCall, D: 1, A: -1, B: -1, Name: "f", Args: []int{2, 0}}, "r1 = f(r2, r0)")
	printed(t, api.Ins{Kind: api.InCall, D: 0, A: -1, B: -1, Name: "f"}, "r0 = f()")
	printed(t, api.Ins{Kind: api.InCall, D: -1, A: -1, B: -1, Name: "f", Args: []int{7}}, "f(r7)")
	printed(t, api.Ins{Kind: api.InCall, D: -1, A: -1, B: -1, Name: "f", Args: []int{}}, "f()")
	printed(t, api.Ins{Kind: api.InCall, D: -1, A: -1, B: -1, Name: "f", Args: []int{1, 2, 3, 4, 5, 6, 7, 8, 9}}, "f(r1, r2, r3, r4, r5, r6, r7, r8, r9)")
	printed(t, api.Ins{Kind: api.InRead, D: 1, A: -1, B: -1}, "r1 = read")
	printed(t, api.Ins{Kind: api.InPrint, D: -1, A: 1, B: -1}, "print r1")
}

// P11.4: a register of any number but -1 is there.
func TestPrintRegistersBelowNone(t *testing.T) {
	for n, text := range map[int]string{-2: "r-2", -3: "r-3", math.MinInt32: "r-2147483648", math.MinInt: "r0", 1<<32 - 1: "r-1", -1<<32 - 1: "r-1"} {
		printed(t, api.Ins{Kind: api.InCall, D: n, A: -1, B: -1, Name: "f", Args: []int{1, 0}}, text+" = f(r1, r0)")
		printed(t, api.Ins{Kind: api.InCall, D: -1, A: n, B: n, Name: "f", Args: []int{n, -1}}, "f("+text+", r-1)")
		printed(t, api.Ins{Kind: api.InLoad, D: n, A: n, B: -1, Name: "g"}, text+" = g["+text+"]")
		printed(t, api.Ins{Kind: api.InLoad, D: n, A: -1, B: n, Name: "g"}, text+" = g")
		printed(t, api.Ins{Kind: api.InStore, D: n, A: n, B: n, Name: "g"}, "g["+text+"] = "+text)
		printed(t, api.Ins{Kind: api.InStore, D: n, A: -1, B: n, Name: "g"}, "g = "+text)
	}
}

// P11.4: the signs.
func TestPrintSigns(t *testing.T) {
	for i, sign := range strings.Fields("+ - * / % << >> & | ^ < <= > >= == != && ||") {
		printed(t, api.Ins{Kind: api.InBin, Op: api.Add + i, D: 1, A: 2, B: 3}, "r1 = r2 "+sign+" r3")
	}
	for i, sign := range strings.Fields("- ! ~") {
		printed(t, api.Ins{Kind: api.InUn, Op: api.Neg + i, D: 1, A: 2, B: -1}, "r1 = "+sign+"r2")
	}
	printed(t, api.Ins{Kind: api.InBin, D: 1, A: 2, B: 3}, "r1 = r2  r3")
	printed(t, api.Ins{Kind: api.InUn, Op: 22, D: 1, A: 2}, "r1 = r2")
	printed(t, api.Ins{Kind: api.InUn, Op: api.Add, D: 1, A: 2}, "r1 = +r2")
}

// P11.4: the ends.
func TestPrintEnds(t *testing.T) {
	ended(t, api.Block{Kind: api.BlJump, To: 3}, "jump 3")
	ended(t, api.Block{Kind: api.BlJump}, "jump 0")
	ended(t, api.Block{Kind: api.BlBranch, A: 1, To: 2, Else: 3}, "branch r1 2 3")
	ended(t, api.Block{Kind: api.BlBranch, A: 3, To: 1}, "branch r3 1 0")
	ended(t, api.Block{Kind: api.BlReturn, A: 5}, "return r5")
}

// P11.4: of other kinds there is an empty line behind its tab.
func TestPrintOtherKinds(t *testing.T) {
	for _, kind := range []int{0, -1, 10, math.MaxInt, math.MinInt} {
		printed(t, api.Ins{Kind: kind, Op: api.Add, D: 1, A: 2, B: 3, Num: 4, Name: "f", Args: []int{5}}, "")
		printed(t, api.Ins{Kind: kind, D: -1}, "")
	}
	for _, kind := range []int{0, -1, 4, math.MaxInt, math.MinInt} {
		ended(t, api.Block{Kind: kind, A: 1, To: 2, Else: 3}, "")
	}
	printed(t, api.Ins{Kind: api.InLoad, D: 1, A: -1}, "r1 = ")
	printed(t, api.Ins{Kind: api.InStore, D: -1, A: 1}, "[r1] = r0")
}

// P11.4, rule 9: a number is printed as the word that is the same.
func TestPrintNumbers(t *testing.T) {
	const big = 1<<32 + 5
	f := api.Fn{Name: "f", Params: big, Regs: -1, Blocks: []api.Block{{Ins: []api.Ins{{Kind: api.InCopy, D: big, A: 1 << 31}}, Kind: api.BlBranch, A: -2, To: math.MaxInt, Else: math.MinInt}}}
	if got := flow.Print(f); got != "fn f 5 -1\nblock 0\n\tr5 = r-2147483648\n\tbranch r-2 -1 0\n" {
		t.Errorf("%q", got)
	}
	printed(t, api.Ins{Kind: api.InCall, D: big, Name: "f", Args: []int{-big, big}}, "r5 = f(r-5, r5)")
}

// P11.4: a line for the function, one for each block.
func TestPrintFn(t *testing.T) {
	for want, f := range map[string]api.Fn{
		"fn  0 0\n":       {},
		"fn main 0 1\n":   {Name: "main", Regs: 1, Blocks: []api.Block{}},
		"fn x y\n 2 10\n": {Name: "x y\n", Params: 2, Regs: 10},
		"fn f 0 0\nblock 0\n\tjump 1\nblock 1\n\tjump 2\nblock 2\n\tjump 0\n": {Name: "f", Blocks: []api.Block{{Kind: api.BlJump, To: 1}, {Kind: api.BlJump, To: 2, Ins: []api.Ins{}}, {Kind: api.BlJump}}},
	} {
		if got := flow.Print(f); got != want {
			t.Errorf("%+v: %q; want %q", f, got, want)
		}
	}
	const whole = "fn two 2 4\nblock 0\n\tr2 = num 7\n\tr3 = r0 <= r1\n\tg = r3\n\tbranch r3 2 1\nblock 1\n\tprint r2\n\tr0 = two(r1, r2)\n\tjump 0\nblock 2\n\treturn r1\n"
	if got := flow.Print(fn(t, whole)); got != whole {
		t.Errorf("%q", got)
	}
}

// P11.4, by the library's words.
func TestPrintRandom(t *testing.T) {
	m := newMaker(4)
	for range rounds(8000) {
		f := sample.CopyFn(m.Fn())
		for range m.Intn(4) {
			m.bend(&f)
		}
		if got, want := flow.Print(f), written(f); got != want {
			t.Fatalf("%+v: %q; want %q", f, got, want)
		}
	}
}

// written is Print: forms with marks for the fields.
func written(f api.Fn) string {
	text := fmt.Sprintf("fn %s %d %d\n", f.Name, int32(f.Params), int32(f.Regs))
	for i, b := range f.Blocks {
		text += fmt.Sprintf("block %d\n", i)
		for _, x := range b.Ins {
			text += "\t" + filled(insForm(x), x) + "\n"
		}
		end := map[int]string{api.BlJump: "jump T", api.BlBranch: "branch rA T E", api.BlReturn: "return rA"}[b.Kind]
		text += "\t" + strings.NewReplacer("T", fmt.Sprint(int32(b.To)), "E", fmt.Sprint(int32(b.Else)), "A", fmt.Sprint(int32(b.A))).Replace(end) + "\n"
	}
	return text
}

func insForm(x api.Ins) string {
	form := map[int]string{
		api.InNum: "rD = num N", api.InCopy: "rD = rA", api.InUn: "rD = SrA", api.InBin: "rD = rA S rB", api.InLoad: "rD = W[rA]", api.InStore: "W[rA] = rB", api.InCall: "rD = W(L)", api.InRead: "rD = read", api.InPrint: "print rA",
	}[x.Kind]
	if x.A == -1 && (x.Kind == api.InLoad || x.Kind == api.InStore) {
		form = strings.Replace(form, "[rA]", "", 1)
	}
	if x.D == -1 && x.Kind == api.InCall {
		form = "W(L)"
	}
	return form
}

func filled(form string, x api.Ins) string {
	signs := strings.Fields("+ - * / % << >> & | ^ < <= > >= == != && || - ! ~")
	sign := ""
	if x.Op >= api.Add && x.Op <= api.Inv {
		sign = signs[x.Op-1]
	}
	var args []string
	for _, n := range x.Args {
		args = append(args, fmt.Sprintf("r%d", int32(n)))
	}
	marks := []string{"N", fmt.Sprint(x.Num), "S", sign, "W", x.Name, "L", strings.Join(args, ", ")}
	for _, field := range []string{"D", "A", "B"} {
		marks = append(marks, field, fmt.Sprint(int32(reflect.ValueOf(x).FieldByName(field).Int())))
	}
	return strings.NewReplacer(marks...).Replace(form)
}

// P11.4: of functions that may be the printing leaves nothing out.
func TestPrintWhole(t *testing.T) {
	m := newMaker(40)
	for range rounds(3000) {
		f := m.Fn()
		if got := fn(t, flow.Print(f)); !flow.Same(got, f) {
			t.Fatalf("%+v; was %+v\n%s", got, f, flow.Print(f))
		}
		for _, f := range flow.LowerAll(m.Prog()).Fns {
			if got := fn(t, flow.Print(f)); !flow.Same(got, f) {
				t.Fatalf("%+v; was %+v\n%s", got, f, flow.Print(f))
			}
		}
	}
	_, err, _ := syntax.Parse(flow.Print(m.Fn()))
	if err == api.OK {
		t.Error("blocks aren't a program's text")
	}
}
