package sample_test

import (
	"reflect"
	"slices"
	"strings"
	"testing"

	"brazier/api"
	"brazier/pick"
	"brazier/sample"
)

// wrongVprog is what may not be in a program: empty, if nothing is wrong.
func wrongVprog(p sample.Vprog) string {
	params := map[string]int{}
	for _, v := range p.Fns {
		if !pick.May(v) {
			return pick.Print(v)
		}
		params[v.Name] = v.Params
	}
	for _, v := range p.Fns {
		for _, x := range v.Code {
			if n, there := params[x.Name]; x.Op == api.PCall && (!there || n != len(x.Args)) {
				return "a call of " + x.Name
			}
		}
	}
	if n, there := params["main"]; !there || n != 0 {
		return "main"
	}
	return ""
}

// Programs of functions between virtual registers may be, each op is made, runs end in all ways; bent functions mostly may not be; the same comes of the same numbers.
func TestVprogs(t *testing.T) {
	m, again := newMaker(6), newMaker(6)
	ops, ends, bent := map[int]int{}, map[int]int{}, 0
	for range 1000 {
		p, same := m.Vprog(12), again.Vprog(12)
		if wrong := wrongVprog(p); wrong != "" {
			t.Fatal(wrong)
		}
		if !reflect.DeepEqual(p, same) {
			t.Fatal("another one from the same numbers")
		}
		for _, v := range p.Fns {
			for _, x := range v.Code {
				ops[x.Op]++
			}
		}
		ends[p.Run(m.Input(), 300).End]++
		again.Input()
		v, w := sample.CopyVfn(m.Vfn(8)), sample.CopyVfn(again.Vfn(8))
		m.BendVfn(&v)
		if again.BendVfn(&w); !pick.Same(v, w) {
			t.Fatal("bent in another way by the same numbers")
		}
		if !pick.May(v) {
			bent++
		}
	}
	for _, op := range sample.VOps() {
		if ops[op] < 100 {
			t.Errorf("%d of %d", ops[op], op)
		}
	}
	for end := api.EndDone; end <= api.EndOpen; end++ {
		if ends[end] < 20 {
			t.Errorf("%d end with %d", ends[end], end)
		}
	}
	if len(ops) != len(sample.VOps()) || bent < 500 {
		t.Error(len(ops), bent)
	}
	m.BendVfn(&api.Vfn{})
}

// A copy is the same, and shares nothing.
func TestCopyVfn(t *testing.T) {
	v := sample.Vfns("vfn f 1 3; call r1 k r0 r2; ret r1")[0]
	w := sample.CopyVfn(v)
	if !pick.Same(v, w) {
		t.Error(pick.Print(w))
	}
	w.Code[0].Args[0] = 9
	w.Code[1].A = 9
	if v.Code[0].Args[0] != 0 || v.Code[1].A != 1 {
		t.Error(pick.Print(v))
	}
}

// Functions are read as they are written; what isn't an instruction is one of the op 0.
func TestVfns(t *testing.T) {
	const text = "vfn f 1 3\naddi r1 r0 -5\nsrli r1 - 31\nadd r2 - r1\nli r0 7\nmv r1 r2\nget r1 g\nset g r2\nidx r1 a r2\nput a r1 r2\ncall r1 k r0 r2\ncall - k\nread r1\nprint r2\nlabel 3\njump 4\nbnez r1 5\nbeqz r1 6\nret r0\nvfn main 0 1\nret r0"
	got := sample.Vfns(text)
	want := "vfn f 1 3\n\t2 1 0 -1 -5\n\t9 1 -1 -1 31\n\t11 2 -1 1 0\n\t40 0 -1 -1 7\n\t41 1 2 -1 0\n\t42 1 -1 -1 0 g\n\t43 -1 -1 2 0 g\n\t44 1 2 -1 0 a\n\t45 -1 1 2 0 a\n\t46 1 -1 -1 0 k 0 2\n\t46 -1 -1 -1 0 k\n\t47 1 -1 -1 0\n\t48 -1 2 -1 0\n\t50 -1 -1 -1 3\n\t51 -1 -1 -1 4\n\t52 -1 1 -1 5\n\t53 -1 1 -1 6\n\t49 -1 0 -1 0\nvfn main 0 1\n\t49 -1 0 -1 0\n"
	if len(got) != 2 || pick.Print(got[0])+pick.Print(got[1]) != want {
		t.Errorf("%+v", got)
	}
	if again := sample.Vfns(strings.ReplaceAll(text, "\n", "; ")); !reflect.DeepEqual(again, got) {
		t.Errorf("%+v", again)
	}
	for _, line := range []string{"what", "addi r1 r0", "addi r1 r0 5 6", "lui r1 5", "ret", "lw r1 r2 0", "jump"} {
		if l := sample.Vfns("x; vfn f; vfn f 0 2; " + line); len(l) != 1 || len(l[0].Code) != 1 || l[0].Code[0].Op != 0 {
			t.Errorf("%q: %+v", line, l)
		}
	}
	for _, op := range []int{-1, 0, api.Lui, api.Lw, api.Ecall, 39, 54} {
		if sample.VFields(op) != "" || op > api.Ecall && sample.VName(op) != "" {
			t.Error(op)
		}
	}
	if len(sample.VOps()) != 36 {
		t.Error(sample.VOps())
	}
}

// runs tells how a main of 8 registers ends, that does this and then returns r0.
func runs(t *testing.T, code string, want api.Result) {
	t.Helper()
	p := sample.VprogOf("vfn k 2 3; sub r2 r0 r1; ret r2; vfn main 0 8; " + code + "; ret r0")
	if wrong := wrongVprog(p); wrong != "" {
		t.Fatal(wrong)
	}
	if got := p.Run([]int32{7, -8}, 100); !reflect.DeepEqual(got, want) {
		t.Errorf("%s: %+v; want %+v", code, got, want)
	}
}

func done(value int32, steps int, trace ...int32) api.Result {
	return api.Result{End: api.EndDone, Value: value, Trace: trace, Steps: steps}
}

// A run does what chapter 15 says.
func TestVrun(t *testing.T) {
	runs(t, "label 0", done(0, 1))
	runs(t, "li r1 5; mv r0 r1; print r0; print r7", done(5, 5, 5, 0))
	runs(t, "call r0 k r1 r0; li r1 9; li r0 2; call r0 k r1 r0; call - k r1 r0", done(7, 12))
	runs(t, "li r1 2; li r2 5; put a r1 r2; idx r0 a r1; set g r0; get r3 g; print r3; get r3 h; print r3", done(5, 10, 5, 0))
	runs(t, "li r0 3; label 7; print r0; addi r0 r0 -1; bnez r0 7; beqz r0 9; print r0; label 9; jump 8; print r0; label 8", done(0, 13, 3, 2, 1))
	runs(t, "li r1 3; put a r1 r1", api.Result{End: api.EndIndex, Steps: 2})
	runs(t, "li r1 -1; idx r1 a r1", api.Result{End: api.EndIndex, Steps: 2})
	runs(t, "print r1; div r1 r1 -", api.Result{End: api.EndDiv, Trace: []int32{0}, Steps: 2})
	runs(t, "rem r1 r1 r2", api.Result{End: api.EndDiv, Steps: 1})
	runs(t, "label 0; print r0; jump 0", api.Result{End: api.EndOpen, Trace: slices.Repeat([]int32{0}, 50), Steps: 100})
	runs(t, "call r0 main", api.Result{End: api.EndDeep, Steps: 32})
	r := done(-8, 6, 7)
	r.Reads = 2
	runs(t, "read r1; print r1; read r0; read r1; bnez r1 1; label 1", r)
	if got := sample.VprogOf("vfn main 0 0; label 0; jump 0").Run(nil, -5); !reflect.DeepEqual(got, api.Result{End: api.EndOpen}) {
		t.Errorf("%+v", got)
	}
}

// The machine's instructions reckon as layer 1's operators.
func TestVrunReckons(t *testing.T) {
	const head = "li r1 -7; li r2 3; "
	for code, want := range map[string]int32{
		"addi r0 r1 -5": -12, "slti r0 r1 -6": 1, "slti r0 r1 -7": 0, "sltiu r0 r1 5": 0, "sltiu r0 r2 -1": 1, "xori r0 r1 -1": 6, "ori r0 r1 2": -5, "andi r0 r1 10": 8, "slli r0 r1 4": -112, "srli r0 r1 31": 1, "srai r0 r1 1": -4,
		"add r0 r1 r2": -4, "sub r0 - r1": 7, "sll r0 r1 r2": -56, "slt r0 r1 r2": 1, "slt r0 r2 r1": 0, "sltu r0 r1 r2": 0, "sltu r0 - r1": 1, "xor r0 r1 r2": -6, "srl r0 r1 r2": 536870911, "sra r0 r1 r2": -1, "or r0 r1 r2": -5, "and r0 r1 r2": 1, "mul r0 r1 r2": -21, "div r0 r1 r2": -2, "rem r0 r1 r2": -1,
	} {
		runs(t, head+code, done(want, 4))
	}
}
