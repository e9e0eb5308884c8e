package riscv_test

import (
	"math"
	"math/big"
	"testing"

	"brazier/api"
	"brazier/asm"
	"brazier/riscv"
	"brazier/sample"
)

// stepped tells what a line's D is then, and where it goes on.
func stepped(t *testing.T, text string, a, b, pc, d, next int32) {
	t.Helper()
	l, there := asm.ParseLine("\t" + text)
	if !there {
		t.Fatal(text)
	}
	if gotD, gotNext := riscv.Step(l, a, b, pc); gotD != d || gotNext != next {
		t.Errorf("%s of %d, %d at %d: %d, %d; want %d, %d", text, a, b, pc, gotD, gotNext, d, next)
	}
}

const (
	least    = math.MinInt32
	greatest = math.MaxInt32
)

// P18.2: what is reckoned with Num.
func TestStepNum(t *testing.T) {
	for _, c := range []struct {
		text string
		a, d int32
	}{
		{"lui x1, 1", 9, 4096}, {"lui x1, 0", 9, 0}, {"lui x1, 1048575", 9, -4096}, {"lui x1, 524288", 9, least}, {"lui x1, 524287", 9, greatest - 4095},
		{"addi x1, x2, 5", 7, 12}, {"addi x1, x2, -5", 3, -2}, {"addi x1, x2, 1", greatest, least}, {"addi x1, x2, -1", least, greatest}, {"addi x1, x2, 2047", 0, 2047}, {"addi x1, x2, -2048", 0, -2048},
		{"slti x1, x2, 5", 4, 1}, {"slti x1, x2, 5", 5, 0}, {"slti x1, x2, 5", 6, 0}, {"slti x1, x2, -1", least, 1}, {"slti x1, x2, -1", 0, 0}, {"slti x1, x2, 0", -1, 1}, {"slti x1, x2, -1", -1, 0},
		{"sltiu x1, x2, 5", 4, 1}, {"sltiu x1, x2, 5", 5, 0}, {"sltiu x1, x2, 5", -1, 0}, {"sltiu x1, x2, -1", 0, 1}, {"sltiu x1, x2, -1", -2, 1}, {"sltiu x1, x2, -1", -1, 0}, {"sltiu x1, x2, 1", 0, 1}, {"sltiu x1, x2, 1", 7, 0}, {"sltiu x1, x2, 0", 0, 0},
		{"xori x1, x2, 6", 5, 3}, {"xori x1, x2, -1", 5, -6}, {"ori x1, x2, 6", 5, 7}, {"ori x1, x2, -2048", 5, -2043}, {"andi x1, x2, 6", 5, 4}, {"andi x1, x2, -2", 5, 4}, {"andi x1, x2, -1", least, least},
		{"slli x1, x2, 1", 5, 10}, {"slli x1, x2, 31", 3, least}, {"slli x1, x2, 0", 5, 5}, {"srli x1, x2, 1", -2, greatest}, {"srli x1, x2, 31", -1, 1}, {"srli x1, x2, 0", -1, -1}, {"srai x1, x2, 1", -3, -2}, {"srai x1, x2, 31", -5, -1}, {"srai x1, x2, 31", 5, 0}, {"srai x1, x2, 0", -3, -3},
	} {
		stepped(t, c.text, c.a, 99, 100, c.d, 104)
		stepped(t, c.text, c.a, c.a, greatest-1, c.d, least+2)
	}
}

// P18.2: what is reckoned of two words.
func TestStepTwo(t *testing.T) {
	for _, c := range []struct {
		name    string
		a, b, d int32
	}{
		{"add", 7, 5, 12}, {"add", greatest, 1, least}, {"add", least, least, 0}, {"sub", 5, 7, -2}, {"sub", least, 1, greatest}, {"sub", 0, least, least},
		{"sll", 3, 4, 48}, {"sll", 3, 32, 3}, {"sll", 1, -1, least}, {"sll", 1, 63, least}, {"srl", -1, 28, 15}, {"srl", -1, 32, -1}, {"srl", least, -1, 1}, {"sra", -8, 1, -4}, {"sra", -8, 33, -4}, {"sra", -8, -1, -1}, {"sra", greatest, 31, 0},
		{"slt", 1, 2, 1}, {"slt", 2, 2, 0}, {"slt", 3, 2, 0}, {"slt", -1, 0, 1}, {"slt", 0, -1, 0}, {"slt", least, greatest, 1}, {"sltu", 1, 2, 1}, {"sltu", 2, 2, 0}, {"sltu", -1, 0, 0}, {"sltu", 0, -1, 1}, {"sltu", greatest, least, 1}, {"sltu", least, greatest, 0},
		{"xor", 12, 10, 6}, {"or", 12, 10, 14}, {"and", 12, 10, 8}, {"xor", -1, 10, -11}, {"or", least, 1, least + 1}, {"and", -1, least, least},
		{"mul", 7, -3, -21}, {"mul", 65536, 65536, 0}, {"mul", least, -1, least}, {"mul", greatest, greatest, 1}, {"mul", 99999, 99999, 1409865409},
		{"div", 7, 2, 3}, {"div", -7, 2, -3}, {"div", 7, -2, -3}, {"div", least, -1, least}, {"div", least, 1, least}, {"div", 0, 5, 0}, {"div", 5, 0, -1}, {"div", 0, 0, -1}, {"div", -5, 0, -1}, {"div", least, 0, -1},
		{"rem", 7, 2, 1}, {"rem", -7, 2, -1}, {"rem", 7, -2, 1}, {"rem", least, -1, 0}, {"rem", 5, 0, 5}, {"rem", -5, 0, -5}, {"rem", 0, 0, 0}, {"rem", least, 0, least},
	} {
		stepped(t, c.name+" x1, x2, x3", c.a, c.b, 8, c.d, 12)
		stepped(t, c.name+" x0, x0, x0", c.a, c.b, 8, c.d, 12)
	}
}

// P18.2: where it goes on.
func TestStepOn(t *testing.T) {
	stepped(t, "beq x1, x2, 40", 7, 7, 100, 0, 140)
	stepped(t, "beq x1, x2, 40", 7, 8, 100, 0, 104)
	stepped(t, "beq x1, x2, -4096", 0, 0, 100, 0, -3996)
	stepped(t, "beq x1, x1, 2", least, least, 100, 0, 102)
	stepped(t, "beq x1, x2, 0", 1, 1, 100, 0, 100)
	stepped(t, "bne x1, x2, 40", 7, 7, 100, 0, 104)
	stepped(t, "bne x1, x2, 40", 7, 8, 100, 0, 140)
	stepped(t, "bne x1, x2, 4094", -1, 1, greatest, 0, least+4093)
	stepped(t, "jal x1, 40", 7, 7, 100, 104, 140)
	stepped(t, "jal x0, -1048576", 7, 7, 100, 104, 100-1048576)
	stepped(t, "jal x1, 1048574", 7, 7, 0, 4, 1048574)
	stepped(t, "jal x1, f", 7, 7, 100, 104, 100)
	stepped(t, "jalr x1, 40(x2)", 8, 7, 100, 104, 48)
	stepped(t, "jalr x1, -3(x2)", 8, 7, 100, 104, 4)
	stepped(t, "jalr x0, 0(x2)", 9, 7, 100, 104, 8)
	stepped(t, "jalr x0, 1(x2)", 9, 7, 100, 104, 10)
	stepped(t, "jalr x0, -1(x2)", 0, 7, greatest, least+3, -2)
	stepped(t, "lw x1, 8(x2)", 65536, 7, 100, 0, 104)
	stepped(t, "sw x1, 8(x2)", 65536, 7, 100, 0, 104)
	stepped(t, "ecall", 1, 2, 100, 0, 104)
	stepped(t, "ecall", 1, 2, greatest, 0, least+3)
}

// reckon is Step of an instruction that may be, with numbers of any size that go round at the end.
func reckon(l api.Line, x, y, at int32) (d, next int32) {
	a, b, n, pc := int64(x), int64(y), int64(l.Num), int64(at)
	name := asm.Mnemonic(l.Op)
	if l.Op >= api.Addi && l.Op <= api.Srai {
		b = n
		name = map[string]string{"addi": "add", "slti": "slt", "sltiu": "sltu", "xori": "xor", "ori": "or", "andi": "and", "slli": "sll", "srli": "srl", "srai": "sra"}[name]
	}
	from0 := func(n int64) int64 { return (n + 1<<32) % (1 << 32) }
	two := new(big.Int).Exp(big.NewInt(2), big.NewInt(from0(b)%32), nil)
	out, on := new(big.Int), pc+4
	switch name {
	case "lui":
		out.Mul(big.NewInt(n), big.NewInt(4096))
	case "add":
		out.Add(big.NewInt(a), big.NewInt(b))
	case "sub":
		out.Sub(big.NewInt(a), big.NewInt(b))
	case "mul":
		out.Mul(big.NewInt(a), big.NewInt(b))
	case "slt":
		out.SetInt64(truth(a < b))
	case "sltu":
		out.SetInt64(truth(from0(a) < from0(b)))
	case "xor":
		out.Xor(big.NewInt(a), big.NewInt(b))
	case "or":
		out.Or(big.NewInt(a), big.NewInt(b))
	case "and":
		out.And(big.NewInt(a), big.NewInt(b))
	case "sll":
		out.Mul(big.NewInt(a), two)
	case "srl":
		out.Div(big.NewInt(from0(a)), two)
	case "sra":
		out.Div(big.NewInt(a), two)
	case "div":
		out.SetInt64(-1)
		if b != 0 {
			out.Quo(big.NewInt(a), big.NewInt(b))
		}
	case "rem":
		out.SetInt64(a)
		if b != 0 {
			out.Rem(big.NewInt(a), big.NewInt(b))
		}
	case "beq", "bne":
		if (a == b) == (name == "beq") {
			on = pc + n
		}
	case "jal":
		out.SetInt64(pc + 4)
		on = pc + n
	case "jalr":
		out.SetInt64(pc + 4)
		on = a + n - from0(a+n)%2
	}
	out.And(out, big.NewInt(math.MaxUint32))
	return int32(uint32(out.Uint64())), int32(uint32(from0(on)))
}

func truth(is bool) int64 {
	if is {
		return 1
	}
	return 0
}

// P18.2: random instructions, with numbers of any size.
func TestStepRandom(t *testing.T) {
	m := newMaker(182)
	for range rounds(3000) {
		for op := 1; op <= sample.Ops; op++ {
			l := m.Op(op)
			a, b, pc := m.word(), m.word(), m.word()
			if m.Intn(4) == 0 {
				b = a
			}
			d, next := riscv.Step(l, a, b, pc)
			if wantD, wantNext := reckon(l, a, b, pc); d != wantD || next != wantNext {
				t.Fatalf("%+v of %d, %d at %d: %d, %d; want %d, %d", l, a, b, pc, d, next, wantD, wantNext)
			}
		}
	}
}

// Rule 1: what is no instruction has no D, and goes on behind it.
func TestStepAny(t *testing.T) {
	for _, op := range []int{0, -1, 31, 40, 53, math.MinInt, math.MaxInt, 1<<32 + 1} {
		for _, kind := range []int{api.LineIns, api.LineLabel, 0, -1} {
			if d, next := riscv.Step(api.Line{Kind: kind, Op: op, D: 1, A: 2, B: 3, Num: 4}, 5, 6, 100); d != 0 || next != 104 {
				t.Errorf("%d: %d, %d", op, d, next)
			}
		}
	}
	m := newMaker(1)
	for range rounds(5000) {
		l := m.Op(1 + m.Intn(sample.Ops))
		m.BendLine(&l)
		riscv.Step(l, m.word(), m.word(), m.word())
	}
}
