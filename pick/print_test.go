package pick_test

import (
	"fmt"
	"math"
	"reflect"
	"strings"
	"testing"

	"brazier/api"
	"brazier/pick"
	"brazier/sample"
)

// P15.4: the head, and each line, of any numbers at all.
func TestPrint(t *testing.T) {
	for _, c := range []struct {
		v    api.Vfn
		want string
	}{
		{api.Vfn{}, "vfn  0 0\n"},
		{api.Vfn{Name: "main", Params: 2, Regs: 11}, "vfn main 2 11\n"},
		{api.Vfn{Name: "a b", Params: -1, Regs: 1<<32 + 5}, "vfn a b -1 5\n"},
		{api.Vfn{Name: "f", Params: math.MaxInt, Regs: math.MinInt, Code: []api.Vins{}}, "vfn f -1 0\n"},
		{vfn(t, "vfn f 1 3; label 0; addi r1 r0 -5; add r2 - r1; li r0 -2147483648; jump 0"), "vfn f 1 3\n\t50 -1 -1 -1 0\n\t2 1 0 -1 -5\n\t11 2 -1 1 0\n\t40 0 -1 -1 -2147483648\n\t51 -1 -1 -1 0\n"},
		{vfn(t, "vfn f 1 3; get r1 g; put a r0 r2; call r1 k r2 r0 r2; call - k; read r1; print r0; bnez r1 12; ret r2"), "vfn f 1 3\n\t42 1 -1 -1 0 g\n\t45 -1 0 2 0 a\n\t46 1 -1 -1 0 k 2 0 2\n\t46 -1 -1 -1 0 k\n\t47 1 -1 -1 0\n\t48 -1 0 -1 0\n\t52 -1 1 -1 12\n\t49 -1 2 -1 0\n"},
		{api.Vfn{Name: "f", Code: []api.Vins{{}, {Op: 99, D: -2, A: 1 << 32, B: math.MinInt32, Num: 7, Args: []int{-1, 1 << 31}}, {Name: "x", Args: []int{}}}}, "vfn f 0 0\n\t0 0 0 0 0\n\t99 -2 0 -2147483648 7 -1 -2147483648\n\t0 0 0 0 0 x\n"},
	} {
		if got := pick.Print(c.v); got != c.want {
			t.Errorf("%+v: %q; want %q", c.v, got, c.want)
		}
	}
}

// P15.4: of random functions, bent ones too, by the library.
func TestPrintRandom(t *testing.T) {
	m := newMaker(153)
	for range rounds(5000) {
		v := sample.CopyVfn(m.Vfn(12))
		for range m.Intn(4) {
			m.BendVfn(&v)
		}
		var want strings.Builder
		fmt.Fprintf(&want, "vfn %s %d %d\n", v.Name, int32(v.Params), int32(v.Regs))
		for _, x := range v.Code {
			fmt.Fprintf(&want, "\t%d %d %d %d %d", int32(x.Op), int32(x.D), int32(x.A), int32(x.B), x.Num)
			if x.Name != "" {
				want.WriteString(" " + x.Name)
			}
			for _, n := range x.Args {
				fmt.Fprintf(&want, " %d", int32(n))
			}
			want.WriteString("\n")
		}
		if got := pick.Print(v); got != want.String() {
			t.Fatalf("%q; want %q", got, want.String())
		}
	}
}

// P15.4: are all fields the same?
func TestSame(t *testing.T) {
	v := vfn(t, "vfn f 1 3; label 0; addi r1 r0 -5; add r2 r0 r1; call r1 k r2 r0; ret r2")
	for what, turn := range map[string]func(v *api.Vfn){
		"Name": func(v *api.Vfn) { v.Name = "g" }, "Params": func(v *api.Vfn) { v.Params = 2 }, "Regs": func(v *api.Vfn) { v.Regs = 4 },
		"one less": func(v *api.Vfn) { v.Code = v.Code[:4] }, "one more": func(v *api.Vfn) { v.Code = append(v.Code, api.Vins{}) }, "none": func(v *api.Vfn) { v.Code = nil }, "another order": func(v *api.Vfn) { v.Code[1], v.Code[2] = v.Code[2], v.Code[1] },
		"Op": func(v *api.Vfn) { v.Code[1].Op = 3 }, "D": func(v *api.Vfn) { v.Code[1].D = 2 }, "A": func(v *api.Vfn) { v.Code[1].A = 1 }, "B": func(v *api.Vfn) { v.Code[2].B = 0 }, "Num": func(v *api.Vfn) { v.Code[1].Num = -6 }, "Name of one": func(v *api.Vfn) { v.Code[3].Name = "l" },
		"an argument": func(v *api.Vfn) { v.Code[3].Args[1] = 1 }, "an argument less": func(v *api.Vfn) { v.Code[3].Args = []int{2} }, "no arguments": func(v *api.Vfn) { v.Code[3].Args = nil }, "an argument elsewhere": func(v *api.Vfn) { v.Code[0].Args = []int{0} },
	} {
		other := sample.CopyVfn(v)
		if !pick.Same(v, other) {
			t.Error("a copy is the same")
		}
		turn(&other)
		if pick.Same(v, other) || pick.Same(other, v) {
			t.Errorf("%s: not the same", what)
		}
	}
}

// P15.4, rule 3: by the library, with random turns; lists of nothing are one.
func TestSameRandom(t *testing.T) {
	m := newMaker(154)
	found := map[bool]int{}
	for range rounds(5000) {
		a, b := sample.CopyVfn(m.Vfn(6)), api.Vfn{}
		if b = sample.CopyVfn(a); m.Intn(3) > 0 {
			m.BendVfn(&b)
		}
		want := reflect.DeepEqual(a, b)
		if got := pick.Same(a, b); got != want {
			t.Fatalf("%v; want %v: %+v, %+v", got, want, a, b)
		}
		found[want]++
	}
	if found[true] < rounds(1000) || found[false] < rounds(1000) {
		t.Error(found)
	}
	if !pick.Same(api.Vfn{Code: []api.Vins{}}, api.Vfn{}) || !pick.Same(api.Vfn{Code: []api.Vins{{}}}, api.Vfn{Code: []api.Vins{{Args: []int{}}}}) {
		t.Error("nil and empty lists are one")
	}
}
