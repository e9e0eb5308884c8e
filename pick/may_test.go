package pick_test

import (
	"math"
	"reflect"
	"strings"
	"testing"

	"brazier/api"
	"brazier/pick"
	"brazier/sample"
)

// may tells whether a function may be.
func may(t *testing.T, v api.Vfn, want bool) {
	t.Helper()
	if got := pick.May(v); got != want {
		t.Errorf("%+v: %v; want %v", v, got, want)
	}
}

// around is a function of 3 registers, with the place 7, that may be, if x may.
func around(x ...api.Vins) api.Vfn {
	code := []api.Vins{{Op: api.PLabel, D: -1, A: -1, B: -1, Num: 7}}
	return api.Vfn{Name: "f", Params: 1, Regs: 3, Code: append(append(code, x...), api.Vins{Op: api.PRet, D: -1, A: 2, B: -1})}
}

// right is an instruction of that op that may be there.
func right(op int) api.Vins {
	x := api.Vins{Op: op, D: -1, A: -1, B: -1}
	for _, has := range sample.VFields(op) {
		switch has {
		case 'D', 'd':
			x.D = 2
		case 'A', 'a':
			x.A = 0
		case 'B', 'b':
			x.B = 1
		case 's', 'c', 'n':
			x.Num = 3
		case 'p':
			x.Num = 7
			if op == api.PLabel {
				x.Num = 8
			}
		case 'N':
			x.Name = "g"
		case 'R':
			x.Args = []int{1, 1}
		}
	}
	return x
}

// P15.2: the name, the counts.
func TestMayHead(t *testing.T) {
	code := []api.Vins{{Op: api.PLabel, D: -1, A: -1, B: -1}, {Op: api.PJump, D: -1, A: -1, B: -1}}
	for _, name := range []string{"f", "_", "main", "x9", strings.Repeat("x", 64)} {
		may(t, api.Vfn{Name: name, Code: code}, true)
	}
	for _, name := range []string{"", "int", "read", "9", "x-", ".f", "a b", strings.Repeat("x", 65)} {
		may(t, api.Vfn{Name: name, Code: code}, false)
	}
	for _, l := range [][2]int{{0, 0}, {0, 1}, {8, 8}, {8, 4096}, {0, 4096}, {3, 3}} {
		may(t, api.Vfn{Name: "f", Params: l[0], Regs: l[1], Code: code}, true)
	}
	for _, l := range [][2]int{{-1, 0}, {0, -1}, {-1, -1}, {1, 0}, {8, 7}, {9, 9}, {9, 20}, {0, 4097}, {math.MinInt, 0}, {math.MaxInt, math.MaxInt}, {0, math.MaxInt}, {0, math.MinInt}} {
		may(t, api.Vfn{Name: "f", Params: l[0], Regs: l[1], Code: code}, false)
	}
	may(t, api.Vfn{}, false)
}

// P15.2: the last of the code, so there is one.
func TestMayLast(t *testing.T) {
	may(t, around(), true)
	may(t, api.Vfn{Name: "f", Regs: 1}, false)
	may(t, api.Vfn{Name: "f", Regs: 1, Code: []api.Vins{}}, false)
	for _, op := range sample.VOps() {
		v := around(right(op))
		v.Code = v.Code[:2]
		may(t, v, op == api.PRet || op == api.PJump)
	}
	may(t, api.Vfn{Name: "f", Regs: 1, Code: []api.Vins{{Op: api.PRet, D: -1, A: 0, B: -1}}}, true)
}

// P15.2: the ops, and each one's registers at their edges.
func TestMayRegisters(t *testing.T) {
	for op := -2; op < 70; op++ {
		has := sample.VFields(op)
		may(t, around(right(op)), has != "")
		if has == "" {
			continue
		}
		for _, field := range []string{"D", "A", "B"} {
			always, perhaps := strings.Contains(has, field), strings.Contains(has, strings.ToLower(field))
			for _, n := range []int{-2, -1, 0, 1, 2, 3, math.MinInt, math.MaxInt} {
				x := right(op)
				reflect.ValueOf(&x).Elem().FieldByName(field).SetInt(int64(n))
				may(t, around(x), (always || perhaps) && n >= 0 && n < 3 || !always && n == -1)
			}
		}
	}
	may(t, around(api.Vins{}), false)
	may(t, around(right(api.PLi), right(api.PCall), api.Vins{}), false)
	most := around()
	most.Regs, most.Code[1].A = 4096, 4095
	may(t, most, true)
}

// P15.2: Num.
func TestMayNum(t *testing.T) {
	for _, op := range sample.VOps() {
		if op >= api.PLabel {
			continue
		}
		for _, n := range []int32{0, 1, -1, 31, 32, 2047, 2048, -2048, -2049, math.MaxInt32, math.MinInt32} {
			x := right(op)
			x.Num = n
			want := n == 0
			switch {
			case op == api.PLi:
				want = true
			case op <= api.Andi:
				want = n >= -2048 && n <= 2047
			case op <= api.Srai:
				want = n >= 0 && n <= 31
			}
			may(t, around(x), want)
		}
	}
}

// P15.2: places: none below 0, none twice, and each that is gone on to.
func TestMayPlaces(t *testing.T) {
	label := func(n int32) api.Vins { return api.Vins{Op: api.PLabel, D: -1, A: -1, B: -1, Num: n} }
	for n, want := range map[int32]bool{0: true, 6: true, 7: false, 8: true, -1: false, math.MaxInt32: true, math.MinInt32: false} {
		may(t, around(label(n)), want)
	}
	may(t, around(label(8), label(9), label(8)), false)
	for _, op := range []int{api.PJump, api.PBnez, api.PBeqz} {
		for n, want := range map[int32]bool{7: true, 8: true, 9: false, 0: false, -1: false, math.MaxInt32: false, math.MinInt32: false} {
			x := right(op)
			x.Num = n
			may(t, around(x, label(8)), want)
			may(t, around(label(8), x), want)
		}
		x := right(op)
		x.Num = -1
		may(t, around(x, label(-1)), false)
	}
	may(t, around(api.Vins{Op: api.PLi, D: 1, A: -1, B: -1, Num: 7}), true)
}

// P15.2: names and arguments.
func TestMayNames(t *testing.T) {
	for _, op := range sample.VOps() {
		has := sample.VFields(op)
		named := strings.Contains(has, "N")
		for _, name := range []string{"", "g", "main", "int", "1x", ".g", strings.Repeat("x", 64), strings.Repeat("x", 65)} {
			x := right(op)
			x.Name = name
			is := name == "g" || name == "main" || len(name) == 64
			may(t, around(x), named && is || !named && name == "")
		}
		for _, args := range [][]int{nil, {}, {0}, {2, 2, 2, 2, 2, 2, 2, 2}, {3}, {-1}, {0, 1, 3}, {0, 0, 0, 0, 0, 0, 0, 0, 0}, {math.MaxInt}, {math.MinInt}} {
			x := right(op)
			x.Args = args
			is := len(args) <= 8
			for _, n := range args {
				is = is && n >= 0 && n < 3
			}
			may(t, around(x), strings.Contains(has, "R") && is || len(args) == 0)
		}
	}
}

// P15.2: random functions may be, and, bent, may be just where the chapter, gone through by letters of what ops have, lets them.
func TestMayRandom(t *testing.T) {
	m := newMaker(152)
	found := map[bool]int{}
	for range rounds(20000) {
		v := sample.CopyVfn(m.Vfn(12))
		may(t, v, true)
		for range 1 + m.Intn(2) {
			m.BendVfn(&v)
		}
		want := mayBe(v)
		may(t, v, want)
		found[want]++
	}
	if found[true] < rounds(2000) || found[false] < rounds(5000) {
		t.Error(found)
	}
}

// mayBe is May.
func mayBe(v api.Vfn) bool {
	if v.Params < 0 || v.Params > 8 || v.Regs < v.Params || v.Regs > 4096 || len(v.Code) == 0 {
		return false
	}
	labels, last := map[int32]int{}, 0
	for _, x := range v.Code {
		last = x.Op
		if x.Op == api.PLabel {
			labels[x.Num]++
		}
	}
	for _, x := range v.Code {
		if !mayBeIns(x, v.Regs) || strings.Contains(sample.VFields(x.Op), "p") && labels[x.Num] != 1 {
			return false
		}
	}
	return last == api.PRet || last == api.PJump
}

func mayBeIns(x api.Vins, regs int) bool {
	has := sample.VFields(x.Op)
	register := func(n int) bool { return n >= 0 && n < regs }
	for letter, n := range map[string]int{"D": x.D, "A": x.A, "B": x.B} {
		if strings.Contains(has, letter) && !register(n) || !strings.Contains(strings.ToUpper(has), letter) && n != -1 || !register(n) && n != -1 {
			return false
		}
	}
	for _, n := range x.Args {
		if !register(n) {
			return false
		}
	}
	least, most := int32(0), int32(0)
	switch {
	case strings.Contains(has, "s"):
		least, most = -2048, 2047
	case strings.Contains(has, "c"):
		most = 31
	case strings.Contains(has, "n"):
		least, most = math.MinInt32, math.MaxInt32
	case strings.Contains(has, "p"):
		most = math.MaxInt32
	}
	name := x.Name == ""
	if strings.Contains(has, "N") {
		name = x.Name != "" && !strings.Contains(" int 1x .f 0 1 2 3 4 5 6 7 8 ", " "+x.Name+" ")
	}
	return has != "" && x.Num >= least && x.Num <= most && name && (len(x.Args) == 0 || strings.Contains(has, "R") && len(x.Args) <= 8)
}
