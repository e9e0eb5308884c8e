package trace_test

import (
	"math"
	"slices"
	"strconv"
	"strings"
	"testing"

	"brazier/api"
	"brazier/trace"
	"brazier/word"
)

// The chapter's example.
func TestExample(t *testing.T) {
	ends(t, "fn main 0 1; block 0; r0 = read; print r0; return r0", "5", api.EndDone, 5, "5", 1, 3)
}

// P12.1: main is called, wherever it stands; it begins with its first block (P12.2).
func TestMain(t *testing.T) {
	ends(t, "fn main 0 1; block 0; return r0", "", api.EndDone, 0, "", 0, 1)
	ends(t, "fn f 0 1; block 0; r0 = num 7; print r0; return r0; fn main 0 1; block 0; r0 = num 3; return r0; fn k 0 1; block 0; print r0; return r0", "", api.EndDone, 3, "", 0, 2)
	ends(t, "fn main 0 2; block 0; r0 = num 1; jump 2; block 1; r0 = num 2; return r0; block 2; print r0; r0 = r0 + r0; branch r1 0 1", "", api.EndDone, 2, "1", 0, 7)
}

// P12.1: each instruction and each end is a step, ahead of all that it does; with no more of them the run is open.
func TestSteps(t *testing.T) {
	const text = "fn f 1 2; block 0; print r0; jump 1; block 1; r1 = read; return r1; fn main 0 3; block 0; r0 = num 4; print r0; branch r0 1 2; block 1; r1 = f(r0); f(r1); g = r1; r2 = g; print r2; jump 2; block 2; return r2"
	m := mid(t, text)
	input := list("8 9")
	whole := trace.Run(m, input, plenty)
	if want := (api.Result{End: api.EndDone, Value: 8, Trace: list("4 4 8 8"), Steps: 18, Reads: 2}); !equal(whole, want) {
		t.Fatalf("%+v; want %+v", whole, want)
	}
	prints := []int{2, 5, 10, 16} // the steps that print, from 1 on
	reads := []int{7, 12}
	upTo := func(l []int, fuel int) int {
		n := 0
		for _, at := range l {
			if at <= fuel {
				n++
			}
		}
		return n
	}
	for fuel := range 18 {
		want := api.Result{End: api.EndOpen, Trace: whole.Trace[:upTo(prints, fuel)], Steps: fuel, Reads: upTo(reads, fuel)}
		if got := trace.Run(m, input, fuel); !equal(got, want) {
			t.Errorf("with %d: %+v; want %+v", fuel, got, want)
		}
	}
	for _, fuel := range []int{18, 19, 1000, math.MaxInt} {
		if got := trace.Run(m, input, fuel); !equal(got, whole) {
			t.Errorf("with %d: %+v", fuel, got)
		}
	}
	for _, fuel := range []int{0, -1, -18, math.MinInt} {
		if got := trace.Run(m, input, fuel); !equal(got, api.Result{End: api.EndOpen}) {
			t.Errorf("with %d: %+v", fuel, got)
		}
	}
}

// P12.1: what may not be done is a step as well; without one the run is open.
func TestLastStep(t *testing.T) {
	for ins, end := range map[string]int{"r0 = r0 / r1": api.EndDiv, "r0 = r0 % r1": api.EndDiv, "r0 = num -1; r0 = a[r0]": api.EndIndex, "r0 = num 3; a[r0] = r1": api.EndIndex} {
		m := mid(t, main8(ins))
		steps := strings.Count(ins, ";") + 1
		for fuel := range 5 {
			want := api.Result{End: end, Steps: steps}
			if fuel < steps {
				want = api.Result{End: api.EndOpen, Steps: fuel}
			}
			if got := trace.Run(m, nil, fuel); !equal(got, want) {
				t.Errorf("%s with %d: %+v; want %+v", ins, fuel, got, want)
			}
		}
	}
	m := mid(t, "fn main 0 1; block 0; main(); return r0")
	for fuel := range 40 {
		want := api.Result{End: api.EndOpen, Steps: fuel}
		if fuel >= 32 {
			want = api.Result{End: api.EndDeep, Steps: 32}
		}
		if got := trace.Run(m, nil, fuel); !equal(got, want) {
			t.Errorf("with %d: %+v; want %+v", fuel, got, want)
		}
	}
}

// P12.2: registers are 0 at first, but for the parameters.
func TestRegisters(t *testing.T) {
	ends(t, "fn main 0 3; block 0; print r0; print r1; print r2; return r2", "", api.EndDone, 0, "0 0 0", 0, 4)
	ends(t, "fn f 2 4; block 0; print r0; print r1; print r2; print r3; r0 = num 7; r1 = num 7; r2 = num 7; r3 = num 7; return r0; fn main 0 2; block 0; r0 = num 1; r1 = num 2; f(r0, r1); f(r1, r0); f(r0, r0); print r0; print r1; return r1", "", api.EndDone, 2, "1 2 0 0 2 1 0 0 1 1 0 0 1 2", 0, 35)
	ends(t, "fn f 8 8; block 0; print r0; print r1; print r2; print r3; print r4; print r5; print r6; print r7; return r7; fn main 0 8; block 0; r0 = num 5; r1 = num 1; r7 = num 9; r2 = f(r7, r1, r0, r3, r1, r1, r7, r0); print r2; return r0", "", api.EndDone, 5, "9 1 5 0 1 1 9 5 5", 0, 15)
	ends(t, "fn main 0 4096; block 0; r4095 = num 3; print r4095; print r4094; return r4095", "", api.EndDone, 3, "3 0", 0, 4)
	ends(t, "fn f 1 3; block 0; branch r0 1 2; block 1; r1 = num 1; r2 = r0 - r1; r2 = f(r2); print r0; print r1; return r0; block 2; r1 = num 8; r0 = num 9; return r1; fn main 0 1; block 0; r0 = num 2; r0 = f(r0); return r0", "", api.EndDone, 2, "1 1 2 1", 0, 21)
}

// P12.2: globals' words are 0 at first, and one for all calls.
func TestGlobals(t *testing.T) {
	answers(t, "r0 = num 9; r0 = g; print r0; r0 = h; print r0; r1 = num 2; r0 = a[r1]; print r0; r1 = num 0; r0 = b[r1]", 0, "0 0 0")
	answers(t, "r1 = num 5; g = r1; r2 = num 6; h = r2; r0 = g; print r0; r0 = h; print r0; g = r0; r0 = g", 6, "5 6")
	answers(t, "r1 = num 1; r2 = num 7; a[r1] = r2; r0 = a[r1]; print r0; r1 = num 0; r0 = a[r1]; print r0; r1 = num 2; r0 = a[r1]; print r0; a[r1] = r1; r0 = a[r1]; print r0; r1 = num 0; b[r1] = r2; r0 = b[r1]; print r0; r0 = a[r1]", 0, "7 0 0 2 7")
	ends(t, "fn f 0 1; block 0; r0 = g; print r0; r0 = num 6; g = r0; return r0; fn main 0 1; block 0; r0 = num 5; g = r0; f(); r0 = g; return r0", "", api.EndDone, 6, "5", 0, 10)
}

// P12.3: numbers and copies.
func TestNumbers(t *testing.T) {
	answers(t, "r0 = num 7", 7, "")
	answers(t, "r3 = num -2147483648; print r3; r0 = r3; r3 = num 2147483647; print r3; print r0", math.MinInt32, "-2147483648 2147483647 -2147483648")
	answers(t, "r0 = num 1; r1 = r0; r0 = num 2; print r1; r1 = r1; print r1; r0 = r1", 1, "1 1")
}

// P12.3: the operators, as layer 1 reckons.
func TestOperators(t *testing.T) {
	const values = "0 1 -1 2 3 7 -7 31 32 33 -2147483648 2147483647"
	for _, a := range list(values) {
		for op := api.Neg; op <= api.Inv; op++ {
			want, _ := word.Un(op, a)
			answers(t, "r1 = num "+word.Dec(a)+"; r0 = "+word.Sign(op)+"r1; print r1", want, word.Dec(a))
		}
		for _, b := range list(values) {
			for op := api.Add; op <= api.Ne; op++ {
				ins := "r1 = num " + word.Dec(a) + "; r2 = num " + word.Dec(b) + "; r0 = r1 " + word.Sign(op) + " r2"
				if want, ok := word.Bin(op, a, b); ok {
					answers(t, ins, want, "")
				} else {
					stops(t, ins, api.EndDiv, "")
				}
			}
		}
	}
	answers(t, "r1 = num -7; r2 = num 2; r3 = r1 / r2; print r3; r3 = r1 % r2; print r3; r3 = r1 >> r2; print r3; r3 = r1 - r2; print r3; r3 = r2 - r1; print r3; r0 = r1 < r2; r0 = r0 + r0; r0 = -r0; r1 = r1 * r1; print r1", -2, "-3 -1 -2 -9 9 49")
}

// P12.3: a division by 0 ends the run; what was printed stays told.
func TestDiv(t *testing.T) {
	stops(t, "print r0; r1 = num 5; print r1; r0 = r1 / r2", api.EndDiv, "0 5")
	stops(t, "r1 = num 5; print r1; r0 = r1 % r2", api.EndDiv, "5")
	stops(t, "r0 = r0 / r0", api.EndDiv, "")
	ends(t, "fn f 1 1; block 0; r0 = r0 / r0; print r0; return r0; fn main 0 1; block 0; r0 = num 3; r0 = f(r0); print r0; r0 = num 0; f(r0); print r0; return r0", "", api.EndDiv, 0, "1 1", 0, 9)
}

// P12.3: an index that an array doesn't have ends the run.
func TestIndex(t *testing.T) {
	for _, n := range []int64{-1, 3, 4, 100, -100, math.MaxInt32, math.MinInt32} {
		num := "r0 = num " + strconv.FormatInt(n, 10)
		stops(t, num+"; print r1; r1 = a[r0]", api.EndIndex, "0")
		stops(t, num+"; r3 = num 8; print r3; a[r0] = r3", api.EndIndex, "8")
	}
	for n := range 3 {
		num := "r1 = num " + strconv.Itoa(n)
		answers(t, num+"; r2 = num 4; a[r1] = r2; r0 = a[r1]", 4, "")
	}
	stops(t, "r1 = num 1; r0 = b[r1]", api.EndIndex, "")
	stops(t, "r1 = num 1; b[r1] = r0", api.EndIndex, "")
	answers(t, "r2 = num 4; b[r1] = r2; r0 = b[r1]", 4, "")
	m := mid(t, main8("r1 = num 4095; a[r1] = r1; r0 = a[r1]; r1 = num 4096; r0 = a[r1]"))
	m.Globals[2].Size = 4096
	if got := trace.Run(m, nil, plenty); !equal(got, api.Result{End: api.EndIndex, Steps: 5}) {
		t.Errorf("%+v", got)
	}
	m.Globals[2].Size = 4095
	if got := trace.Run(m, nil, plenty); !equal(got, api.Result{End: api.EndIndex, Steps: 2}) {
		t.Errorf("%+v", got)
	}
}

// P12.3: a call's register, if there is one, is what is returned; no other of the caller's is turned.
func TestCalls(t *testing.T) {
	const f = "fn f 1 2; block 0; r1 = num 3; r1 = r1 * r0; r0 = num 0; return r1; "
	ends(t, f+main8("r1 = num 5; r0 = f(r1); print r0; print r1; f(r0); print r0; r1 = f(r1); print r1; print r0"), "", api.EndDone, 15, "15 5 15 15 15", 0, 22)
	ends(t, f+main8("r7 = num 2; r7 = f(r7); r7 = f(r7); r0 = f(r7); print r6"), "", api.EndDone, 54, "0", 0, 18)
	ends(t, "fn f 0 1; block 0; r0 = g; print r0; return r0; fn k 0 2; block 0; r1 = f(); r0 = num 4; g = r0; f(); r1 = f(); return r1; "+main8("r0 = k(); r1 = f()"), "", api.EndDone, 4, "0 4 4 4", 0, 21)
}

// P12.3: at most MaxCalls calls are within one another, main's counted; one behind the other there may be more.
func TestDeep(t *testing.T) {
	const down = "fn f 1 3; block 0; branch r0 1 2; block 1; r1 = num 1; r1 = r0 - r1; r2 = f(r1); r2 = r2 + r0; return r2; block 2; print r0; return r0; "
	main := func(n string) string { return down + main8("r0 = num "+n+"; r1 = num 7; print r1; r0 = f(r0)") }
	ends(t, main("30"), "", api.EndDone, 465, "7 0", 0, 5+30*6+3)
	ends(t, main("31"), "", api.EndDeep, 0, "7", 0, 4+31*4)
	ends(t, main("32"), "", api.EndDeep, 0, "7", 0, 4+31*4)
	ends(t, main("-1"), "", api.EndDeep, 0, "7", 0, 4+31*4)
	const again = "fn f 0 1; block 0; return r0; fn main 0 2; block 0; r0 = num 100; jump 1; block 1; f(); r1 = num 1; r0 = r0 - r1; branch r0 1 2; block 2; return r0"
	ends(t, again, "", api.EndDone, 0, "", 0, 2+100*5+1)
	ends(t, "fn main 0 2; block 0; r0 = g; r1 = num 1; r0 = r0 + r1; g = r0; r1 = num 32; r1 = r0 < r1; branch r1 1 2; block 1; r1 = main(); r0 = r0 + r1; return r0; block 2; return r0", "", api.EndDone, 528, "", 0, 32*7+31*3+1)
}

// P12.3: reading; behind the last word there are 0s, which take none.
func TestRead(t *testing.T) {
	const five = "fn main 0 2; block 0; r0 = read; print r0; r1 = read; print r1; r0 = read; print r0; r0 = read; print r0; return r1"
	ends(t, five, "", api.EndDone, 0, "0 0 0 0", 0, 9)
	ends(t, five, "7", api.EndDone, 0, "7 0 0 0", 1, 9)
	ends(t, five, "7 -8", api.EndDone, -8, "7 -8 0 0", 2, 9)
	ends(t, five, "0 0 0 5", api.EndDone, 0, "0 0 0 5", 4, 9)
	ends(t, five, "1 2 3 4 5 6", api.EndDone, 2, "1 2 3 4", 4, 9)
	ends(t, "fn f 0 1; block 0; r0 = read; return r0; "+main8("r0 = read; r1 = f(); r2 = read; print r1; print r2"), "1 2 3", api.EndDone, 1, "2 3", 3, 8)
}

// P12.3: the ends of blocks.
func TestEnds(t *testing.T) {
	for value, want := range map[string]string{"1": "5", "0": "6", "-1": "5", "2147483647": "5", "-2147483648": "5", "65536": "5"} {
		ends(t, "fn main 0 2; block 0; r0 = num "+value+"; r1 = num 1; branch r0 1 2; block 1; r1 = num 5; print r1; return r1; block 2; r1 = num 6; print r1; return r1", "", api.EndDone, list(want)[0], want, 0, 6)
		ends(t, "fn main 0 2; block 0; r0 = num "+value+"; branch r0 1 1; block 1; r1 = num 5; return r1", "", api.EndDone, 5, "", 0, 4)
	}
	ends(t, "fn main 0 2; block 0; r0 = num 3; jump 2; block 1; print r0; r1 = num 1; r0 = r0 - r1; jump 2; block 2; branch r0 1 3; block 3; return r0", "", api.EndDone, 0, "3 2 1", 0, 2+3*5+2)
	m := mid(t, "fn main 0 0; block 0; jump 0")
	for _, fuel := range []int{0, 1, 2, 1000} {
		if got := trace.Run(m, nil, fuel); !equal(got, api.Result{End: api.EndOpen, Steps: fuel}) {
			t.Errorf("%+v", got)
		}
	}
	ends(t, "fn main 0 1; block 0; jump 3; block 1; jump 4; block 2; jump 1; block 3; jump 2; block 4; return r0", "", api.EndDone, 0, "", 0, 5)
}

// P12.3: printing.
func TestPrint(t *testing.T) {
	long := strings.Repeat("print r0; r1 = num 1; r0 = r0 + r1; ", 100) + "print r0"
	var want []string
	for n := range 101 {
		want = append(want, strconv.Itoa(n))
	}
	answers(t, long, 100, strings.Join(want, " "))
	got := trace.Run(mid(t, main8(long)), nil, 60)
	if !slices.Equal(got.Trace, list(strings.Join(want[:20], " "))) || got.End != api.EndOpen {
		t.Errorf("%+v", got)
	}
}
