package regs_test

import (
	"slices"
	"strconv"
	"strings"
	"testing"

	"brazier/api"
	"brazier/dead"
	"brazier/flow"
	"brazier/fold"
	"brazier/pick"
	"brazier/regs"
	"brazier/sample"
	"brazier/trace"
)

// does tells that the machine does what functions do between virtual registers, by the rules; it answers how these end.
func does(t *testing.T, p sample.Vprog, input []int32, fuel int) api.Result {
	t.Helper()
	want := p.Run(input, fuel)
	a, frames := linked(t, p)
	for _, v := range p.Fns {
		lines, _ := regs.Fn(v)
		if wrong := symbols(v, lines, p); wrong != "" {
			t.Fatalf("%s: %s\n%s", wrong, printed(p), text(lines))
		}
	}
	if undone(want.End) {
		return want
	}
	m := image(t, a)
	steps := 200*want.Steps + 1000
	got, wrong := desked(a, m, frames, input, steps)
	if wrong != "" && want.End == api.EndOpen && undone(p.Run(input, 3*steps).End) {
		wrong = "" // farther on there is what nothing is told of
	}
	if wrong != "" || !begins(got, want) {
		t.Fatalf("%s: with %d, %d: %+v; want %+v\n%s", wrong, input, fuel, got, want, printed(p))
	}
	if own := m.Run(input, steps); !begins(own, want) {
		t.Fatalf("with %d, %d: %+v; want %+v\n%s", input, fuel, own, want, printed(p))
	}
	return want
}

// undone is whether a run ended with what it may not do.
func undone(end int) bool { return end != api.EndDone && end != api.EndOpen }

// done tells that a program of a text (see sample.VprogOf) ends with that value, on the machine too, and prints that.
func done(t *testing.T, text, input string, value int32, trace string) {
	t.Helper()
	p := sample.VprogOf(text)
	for _, v := range p.Fns {
		if !pick.May(v) {
			t.Fatalf("%s may not be", pick.Print(v))
		}
	}
	got := does(t, p, list(input), 1000000)
	if want := (api.Result{End: api.EndDone, Value: value, Trace: list(trace)}); got.End != want.End || got.Value != value || !slices.Equal(got.Trace, want.Trace) {
		t.Errorf("%.200s: %+v; want %+v", text, got, want)
	}
}

// P16.5: the chapter's example.
func TestExample(t *testing.T) {
	lines, frame := regs.Fn(vfn(t, "vfn f 1 2; add r0 r0 r0; ret r0"))
	adds, saved := 0, 0
	for _, l := range lines {
		if l.Op == api.Adds && l.A == 9 && l.B == 9 {
			adds++
		}
		if l.Op == api.Sw && l.A == 2 && (l.B == 9 || l.B == 1) {
			saved++
		}
	}
	if adds != 1 || saved != 2 || frame != 16 {
		t.Errorf("%d: %s", frame, text(lines))
	}
	done(t, "vfn main 0 2; read r0; call r1 f r0; ret r1; vfn f 1 2; add r1 r0 r0; ret r1", "21", 42, "")
}

// P16.5: arguments, those that nobody asks too, and what isn't one: 0.
func TestFirstWords(t *testing.T) {
	const main = "vfn main 0 9; li r0 1; li r1 2; li r2 3; li r3 4; li r4 5; li r5 6; li r6 7; li r7 8; call r8 f r0 r1 r2 r3 r4 r5 r6 r7; ret r8; "
	done(t, main+"vfn f 8 9; print r0; print r1; print r2; print r3; print r4; print r5; print r6; print r7; ret r7", "", 8, "1 2 3 4 5 6 7 8")
	done(t, main+"vfn f 8 9; print r7; print r6; print r2; print r0; print r8; ret r3", "", 4, "8 7 3 1 0")
	done(t, main+"vfn f 8 20; print r7; print r12; li r12 3; print r12; print r19; ret r18", "", 0, "8 0 3 0")
	done(t, main+"vfn f 8 9; mv r0 r7; mv r7 r1; print r0; print r7; call r1 k r2 r1 r0; print r1; print r0; ret r5; vfn k 3 3; sub r0 r0 r1; add r0 r0 r2; ret r0", "", 6, "8 2 9 8")
	done(t, "vfn main 0 3; label 0; print r0; addi r0 r0 1; slti r1 r0 3; bnez r1 0; ret r2", "", 0, "0 1 2")
	does(t, sample.VprogOf("vfn main 0 0; label 5; jump 7; label 6; jump 5; label 7; jump 8; label 8; jump 6"), nil, 50)
}

// P16.7: numbers of one instruction, and of two.
func TestNumbers(t *testing.T) {
	for _, n := range []string{"0", "1", "-1", "2046", "2047", "2048", "2049", "-2047", "-2048", "-2049", "4095", "4096", "4097", "-4095", "-4096", "-4097", "8193", "6144", "6143", "65536", "1234567890", "2147483647", "2147481599", "2147481600", "-2147483648", "-2147483647", "-2147481600"} {
		done(t, "vfn main 0 2; li r1 "+n+"; print r1; ret r0", "", 0, n)
	}
}

// each16 is a text for each of the registers from 0 to 15.
func each16(text string) string {
	var out strings.Builder
	for r := range 16 {
		out.WriteString(strings.ReplaceAll(text, "?", strconv.Itoa(r)))
	}
	return out.String()
}

// P16.7: each instruction, with registers in the machine's and in slots, none, and one twice. Sixteen registers are of use from the front to the end.
func TestEachOp(t *testing.T) {
	m := newMaker(165)
	fields := func(has rune, r int) string {
		switch has {
		case 's':
			return strconv.Itoa(m.Intn(4096) - 2048)
		case 'c':
			return strconv.Itoa(m.Intn(32))
		case 'n':
			return one(m, "0", "1", "-1", "2047", "2048", "-2048", "-2049", "4096", "-4096", "65536", "2147483647", "-2147483648", "1234567890")
		case 'p':
			return "1"
		case 'a', 'b', 'd':
			if m.Intn(4) == 0 {
				return "-"
			}
		}
		return "r" + strconv.Itoa(r)
	}
	for _, op := range sample.VOps() {
		if op == api.PLabel || op == api.PRet {
			continue
		}
		for range rounds(100) {
			line := sample.VName(op)
			a, d, b := m.Intn(16), m.Intn(16), m.Intn(16)
			ahead := "; li r" + strconv.Itoa(b) + " 3; "
			for _, has := range sample.VFields(op) {
				switch has {
				case 'A', 'a':
					line += " " + fields(has, a)
				case 'B', 'b':
					line += " " + fields(has, b)
				case 'N':
					line += " " + map[int]string{api.PGet: "g", api.PSet: "h", api.PIdx: "a", api.PPut: "a", api.PCall: "k"}[op]
				case 'R':
					line += " r" + strconv.Itoa(a) + " r" + strconv.Itoa(b)
				default:
					line += " " + fields(has, d)
				}
			}
			if op == api.PIdx || op == api.PPut {
				ahead += "li r" + strconv.Itoa(a) + " " + one(m, "0", "1", "2") + "; "
			}
			text := "vfn main 0 16; " + each16("read r?; ") + "set g r3" + ahead + line + "; print r0; label 1; " + each16("print r?; ") + "get r1 h; print r1; ret r2; vfn k 2 4; li r2 77; set h r0; sub r3 r0 r1; ret r3"
			p := sample.VprogOf(text)
			input := []int32{m.Int31(), -m.Int31(), 5, 0, -1, m.Int31(), m.Int31(), 1, 2, 3, 4, -2147483648, 2147483647, 31, 32, 33}
			if r := does(t, p, input, 10000); !pick.May(p.Fns[0]) || r.End != api.EndDone && r.End != api.EndDiv {
				t.Fatalf("%s: %+v", text, r)
			}
		}
	}
}

// P16.5, P16.7: functions of many registers that are of use at once, to the greatest frames that there are: all are read, then printed, with a call between, in a function that is called as deep as may be.
func TestWide(t *testing.T) {
	for _, count := range []int{10, 11, 12, 512, 1040, 1600, 2600, 4092, 4096} {
		v := api.Vfn{Name: "f", Params: 3, Regs: count}
		add := func(x api.Vins) { v.Code = append(v.Code, x) }
		var input []int32
		for r := 3; r < count; r++ {
			add(api.Vins{Op: api.PRead, D: r, A: -1, B: -1})
			input = append(input, int32(r*r))
		}
		add(api.Vins{Op: api.PBeqz, D: -1, A: 0, B: -1, Num: 1})
		add(api.Vins{Op: api.Addi, D: 1, A: 0, B: -1, Num: -1})
		add(api.Vins{Op: api.PCall, D: 2, A: -1, B: -1, Name: "f", Args: []int{1, 0, 2}})
		add(api.Vins{Op: api.PLabel, D: -1, A: -1, B: -1, Num: 1})
		for r := range count {
			if r%97 < 3 || r > count-3 {
				add(api.Vins{Op: api.PPrint, D: -1, A: r, B: -1})
			}
			add(api.Vins{Op: api.Adds, D: 2, A: 2, B: r})
		}
		add(api.Vins{Op: api.PRet, D: -1, A: 2, B: -1})
		p := sample.VprogOf("vfn main 0 3; li r0 30; call r1 f r0 r0 r0; ret r1")
		p.Fns = append(p.Fns, v)
		if r := does(t, p, input, 1000000); r.End != api.EndDone || r.Value == 0 || len(r.Trace) < 31*3 || !pick.May(v) {
			t.Fatalf("%d: %d, %d, %d", count, r.End, r.Value, len(r.Trace))
		}
		if _, frame := regs.Fn(v); frame < 4*count-32 || frame > 4*count+64 {
			t.Errorf("%d: %d", count, frame)
		}
	}
}

// P16.5: a frame of each size near that which one instruction takes.
func TestFrames(t *testing.T) {
	for count := 495; count < 520; count++ {
		v := vfn(t, "vfn main 0 "+strconv.Itoa(count)+"; ret r0")
		v.Code = nil
		for r := range count {
			v.Code = append(v.Code, api.Vins{Op: api.PLi, D: r, A: -1, B: -1, Num: int32(r)})
		}
		for r := range count {
			v.Code = append(v.Code, api.Vins{Op: api.Adds, D: 0, A: 0, B: r})
		}
		v.Code = append(v.Code, api.Vins{Op: api.PRet, D: -1, A: 0, B: -1})
		r := does(t, sample.Vprog{Fns: []api.Vfn{v}}, nil, 10000)
		if r.End != api.EndDone || r.Value != int32(count*(count-1)/2) {
			t.Errorf("%d: %+v", count, r)
		}
	}
}

// P16.5: ways that are farther than a branch can say, both on and back.
func TestFar(t *testing.T) {
	long := strings.Repeat("addi r1 r1 1; ", 3000)
	done(t, "vfn main 0 4; li r0 1; li r3 3; label 7; bnez r0 9; "+long+"label 9; li r0 0; print r1; addi r3 r3 -1; beqz r3 8; "+long+"jump 7; label 8; ret r1", "", 12000, "0 6000 12000")
}

// P16.5: the longest names there are.
func TestNames(t *testing.T) {
	long := strings.Repeat("x", 64)
	done(t, "vfn main 0 2; li r0 5; call r1 "+long+" r0; ret r1; vfn "+long+" 1 1; label 2147483647; print r0; addi r0 r0 -1; bnez r0 2147483647; label 0; ret r0", "", 0, "5 4 3 2 1")
}

// P16.5, P16.7, P16.8: random programs.
func TestRandomPrograms(t *testing.T) {
	m := newMaker(167)
	found := map[int]int{}
	for range rounds(1500) {
		p, input := m.Vprog(one(m, 2, 6, 12, 20, 40, 80)), m.Input()
		found[does(t, p, input, one(m, 20, 300, 1000)).End]++
	}
	if found[api.EndDone] < rounds(500) || found[api.EndOpen] < rounds(200) {
		t.Error(found)
	}
}

// P16.7: programs, by all passes.
func TestPrograms(t *testing.T) {
	m := newMaker(168)
	found := map[int]int{}
	for range rounds(1000) {
		p := flow.LowerAll(m.Prog())
		if m.Intn(2) == 0 {
			p = dead.Mid(fold.Mid(p))
		}
		q := sample.Vprog{Globals: p.Globals}
		for _, f := range p.Fns {
			q.Fns = append(q.Fns, pick.Fn(f))
		}
		input := m.Input()
		r := trace.Run(p, input, 500)
		if own := does(t, q, input, 1000); !begins(own, r) {
			t.Fatalf("%+v; want %+v: %s", own, r, printed(q))
		}
		found[r.End]++
	}
	if found[api.EndDone] < rounds(500) || found[api.EndOpen] < rounds(50) {
		t.Error(found)
	}
}
