package flow_test

import (
	"math"
	"reflect"
	"regexp"
	"slices"
	"strings"
	"testing"

	"brazier/api"
	"brazier/flow"
	"brazier/sample"
)

// may tells whether a function may be.
func may(t *testing.T, f api.Fn, want bool) {
	t.Helper()
	if got := flow.MayFn(f); got != want {
		t.Errorf("%+v: %v; want %v", f, got, want)
	}
}

// around is a function of 3 registers and 3 blocks that may be, if x may.
func around(x ...api.Ins) api.Fn {
	return api.Fn{Name: "f", Params: 1, Regs: 3, Blocks: []api.Block{{Kind: api.BlJump, To: 1}, {Ins: x, Kind: api.BlBranch, A: 2, To: 2}, {Kind: api.BlReturn, A: 2}}}
}

// mayIns tells whether an instruction may be.
func mayIns(t *testing.T, x api.Ins, want bool) {
	t.Helper()
	may(t, around(x), want)
}

// P11.1: the name, the counts.
func TestMayHead(t *testing.T) {
	block := []api.Block{{Kind: api.BlJump}}
	for _, name := range []string{"f", "_", "main", "x9", "r1", "read1", strings.Repeat("x", 64)} {
		may(t, api.Fn{Name: name, Blocks: block}, true)
	}
	for _, name := range []string{"", "int", "read", "print", "9", "x-", "a b", "f ", "ä", strings.Repeat("x", 65)} {
		may(t, api.Fn{Name: name, Blocks: block}, false)
	}
	for _, l := range [][2]int{{0, 0}, {0, 1}, {8, 8}, {8, 4096}, {0, 4096}, {3, 3}} {
		may(t, api.Fn{Name: "f", Params: l[0], Regs: l[1], Blocks: block}, true)
	}
	for _, l := range [][2]int{{-1, 0}, {0, -1}, {-1, -1}, {1, 0}, {8, 7}, {9, 9}, {9, 20}, {0, 4097}, {math.MinInt, 0}, {math.MaxInt, math.MaxInt}, {0, math.MaxInt}, {0, math.MinInt}} {
		may(t, api.Fn{Name: "f", Params: l[0], Regs: l[1], Blocks: block}, false)
	}
	may(t, api.Fn{Name: "f", Regs: 1}, false)
	may(t, api.Fn{Name: "f", Regs: 1, Blocks: []api.Block{}}, false)
	may(t, api.Fn{}, false)
}

// P11.1: the ends.
func TestMayEnds(t *testing.T) {
	for _, c := range []struct {
		b    api.Block
		want bool
	}{
		{api.Block{Kind: api.BlJump}, true}, {api.Block{Kind: api.BlJump, To: 2}, true}, {api.Block{Kind: api.BlJump, To: 3}, false}, {api.Block{Kind: api.BlJump, To: -1}, false}, {api.Block{Kind: api.BlJump, To: math.MaxInt}, false},
		{api.Block{Kind: api.BlJump, To: 1, A: 1}, false}, {api.Block{Kind: api.BlJump, To: 1, A: -1}, false}, {api.Block{Kind: api.BlJump, To: 1, Else: 1}, false}, {api.Block{Kind: api.BlJump, To: 1, Else: -1}, false},
		{api.Block{Kind: api.BlBranch}, true}, {api.Block{Kind: api.BlBranch, A: 1, To: 2, Else: 2}, true}, {api.Block{Kind: api.BlBranch, A: 1, To: 2}, true}, {api.Block{Kind: api.BlBranch, A: 1, Else: 2}, true},
		{api.Block{Kind: api.BlBranch, A: 2}, false}, {api.Block{Kind: api.BlBranch, A: -1}, false}, {api.Block{Kind: api.BlBranch, To: 3}, false}, {api.Block{Kind: api.BlBranch, To: -1}, false}, {api.Block{Kind: api.BlBranch, Else: 3}, false}, {api.Block{Kind: api.BlBranch, Else: -1}, false},
		{api.Block{Kind: api.BlReturn}, true}, {api.Block{Kind: api.BlReturn, A: 1}, true}, {api.Block{Kind: api.BlReturn, A: 2}, false}, {api.Block{Kind: api.BlReturn, A: -1}, false}, {api.Block{Kind: api.BlReturn, To: 1}, false}, {api.Block{Kind: api.BlReturn, Else: 1}, false}, {api.Block{Kind: api.BlReturn, To: -1}, false},
		{api.Block{}, false}, {api.Block{Kind: 4}, false}, {api.Block{Kind: -1}, false},
	} {
		last := api.Block{Kind: api.BlReturn}
		may(t, api.Fn{Name: "f", Regs: 2, Blocks: []api.Block{c.b, last, last}}, c.want)
		may(t, api.Fn{Name: "f", Regs: 2, Blocks: []api.Block{last, last, c.b}}, c.want)
	}
	may(t, api.Fn{Name: "f", Blocks: []api.Block{{Kind: api.BlReturn}}}, false)
	may(t, api.Fn{Name: "f", Blocks: []api.Block{{Kind: api.BlBranch}}}, false)
	may(t, api.Fn{Name: "f", Regs: 4096, Blocks: []api.Block{{Kind: api.BlReturn, A: 4095}}}, true)
}

// P11.1: the instructions that there are, and registers at their edges.
func TestMayIns(t *testing.T) {
	for kind, has := range fieldsOf {
		x := right(kind)
		mayIns(t, x, true)
		for _, field := range []string{"D", "A", "B"} {
			for _, n := range []int{-2, -1, 0, 1, 2, 3, math.MinInt, math.MaxInt} {
				y := x
				reflect.ValueOf(&y).Elem().FieldByName(field).SetInt(int64(n))
				there, perhaps := slices.Contains(has, field), slices.Contains(has, field+"?")
				mayIns(t, y, (there || perhaps) && n >= 0 && n < 3 || !there && n == -1)
			}
		}
		y := x
		y.Num = 1
		mayIns(t, y, kind == api.InNum)
		y.Num = math.MinInt32
		mayIns(t, y, kind == api.InNum)
		y = x
		y.Kind = 0
		mayIns(t, y, false)
	}
	for _, kind := range []int{-1, 10, math.MaxInt} {
		mayIns(t, api.Ins{Kind: kind, D: -1, A: -1, B: -1}, false)
		mayIns(t, api.Ins{Kind: kind, D: 1, A: 1, B: 1}, false)
	}
	mayIns(t, api.Ins{}, false)
	may(t, around(), true)
	may(t, around(right(api.InNum), right(api.InCall), api.Ins{}), false)
}

// P11.1: the operators.
func TestMayOps(t *testing.T) {
	for op := -2; op < 30; op++ {
		for kind := range fieldsOf {
			x := right(kind)
			x.Op = op
			switch kind {
			case api.InUn:
				mayIns(t, x, op == api.Neg || op == api.Not || op == api.Inv)
			case api.InBin:
				mayIns(t, x, op >= api.Add && op <= api.Ne)
			default:
				mayIns(t, x, op == 0)
			}
		}
	}
}

// P11.1: names, arguments.
func TestMayNames(t *testing.T) {
	for kind, has := range fieldsOf {
		x := right(kind)
		named := slices.Contains(has, "Name")
		for _, name := range []string{"f", "other", "_", strings.Repeat("x", 64)} {
			x.Name = name
			mayIns(t, x, named)
		}
		for _, name := range []string{"int", "9", "a b", "-", strings.Repeat("x", 65)} {
			x.Name = name
			mayIns(t, x, false)
		}
		x.Name = ""
		mayIns(t, x, !named)
		x = right(kind)
		for n := range 12 {
			x.Args = make([]int, n)
			mayIns(t, x, n == 0 || kind == api.InCall && n <= 8)
		}
		for _, n := range []int{-1, 3, math.MaxInt, math.MinInt} {
			x.Args = []int{0, n, 2}
			mayIns(t, x, false)
		}
		x.Args = []int{2, 2, 0}
		mayIns(t, x, kind == api.InCall)
	}
}

// fieldsOf is what a kind of instruction has, but for Kind: perhaps, where there is a ?.
var fieldsOf = map[int][]string{
	api.InNum: {"D", "Num"}, api.InCopy: {"D", "A"}, api.InUn: {"D", "Op", "A"}, api.InBin: {"D", "Op", "A", "B"}, api.InLoad: {"D", "Name", "A?"}, api.InStore: {"Name", "A?", "B"}, api.InCall: {"D?", "Name", "Args"}, api.InRead: {"D"}, api.InPrint: {"A"},
}

// right is an instruction of a kind that may be.
func right(kind int) api.Ins {
	x := api.Ins{Kind: kind, D: -1, A: -1, B: -1}
	for _, field := range fieldsOf[kind] {
		switch field {
		case "D", "A", "B":
			reflect.ValueOf(&x).Elem().FieldByName(field).SetInt(1)
		case "Op":
			x.Op = map[int]int{api.InUn: api.Not, api.InBin: api.Rem}[kind]
		case "Name":
			x.Name = "f"
		}
	}
	return x
}

// P11.1, said another way, of functions in which something was turned.
func TestMayFnRandom(t *testing.T) {
	m := newMaker(11)
	yes, no := 0, 0
	for range rounds(40000) {
		f := sample.CopyFn(m.Fn())
		for range m.Intn(3) {
			m.bend(&f)
		}
		want := mayBe(f)
		may(t, f, want)
		if t.Failed() {
			t.FailNow()
		}
		if want {
			yes++
		} else {
			no++
		}
	}
	if yes < rounds(8000) || no < rounds(8000) {
		t.Error(yes, no)
	}
}

var aName = regexp.MustCompile(`^[A-Za-z_][A-Za-z_0-9]{0,63}$`)

func isName(s string) bool {
	return aName.MatchString(s) && !slices.Contains(strings.Fields("int if else while break continue return print read"), s)
}

// mayBe is MayFn: nothing is amiss.
func mayBe(f api.Fn) bool {
	amiss := 0
	must := func(ok bool) {
		if !ok {
			amiss++
		}
	}
	must(isName(f.Name))
	must(f.Params >= 0 && f.Params <= 8 && f.Regs <= 4096 && f.Regs >= f.Params)
	must(len(f.Blocks) > 0)
	for _, b := range f.Blocks {
		for _, x := range b.Ins {
			must(fieldsFit(x, f.Regs))
		}
		must(b.Kind >= 1 && b.Kind <= 3)
		must(b.Kind == 1 && b.A == 0 || b.A >= 0 && b.A < f.Regs)
		must(b.Kind == 3 && b.To == 0 || b.To >= 0 && b.To < len(f.Blocks))
		must(b.Kind != 2 && b.Else == 0 || b.Else >= 0 && b.Else < len(f.Blocks))
		must(b.Kind == 2 || b.Else == 0)
		must(b.Kind != 1 || b.A == 0)
		must(b.Kind != 3 || b.To == 0)
	}
	return amiss == 0
}

// fieldsFit goes through all fields of an instruction.
func fieldsFit(x api.Ins, regs int) bool {
	has, known := fieldsOf[x.Kind]
	v := reflect.ValueOf(x)
	for i := range v.NumField() {
		name := v.Type().Field(i).Name
		if name == "Kind" {
			continue
		}
		there := slices.Contains(has, name) || slices.Contains(has, name+"?")
		switch name {
		case "D", "A", "B":
			n := v.Field(i).Int()
			known = known && (n == -1 && !slices.Contains(has, name) || n >= 0 && n < int64(regs) && there)
		case "Op":
			known = known && (!there && x.Op == 0 || x.Kind == api.InUn && x.Op > 18 && x.Op < 22 || x.Kind == api.InBin && x.Op > 0 && x.Op < 17)
		case "Name":
			known = known && (there && isName(x.Name) || !there && x.Name == "")
		case "Args":
			bad := slices.ContainsFunc(x.Args, func(n int) bool { return n < 0 || n >= regs })
			known = known && (len(x.Args) == 0 || there && len(x.Args) < 9 && !bad)
		default:
			known = known && (there || v.Field(i).IsZero())
		}
	}
	return known
}
