package riscv_test

import (
	"slices"
	"strconv"
	"strings"
	"testing"

	"brazier/api"
	"brazier/asm"
	"brazier/riscv"
	"brazier/sample"
	"brazier/walk"
)

// A desk runs a program by its printing, with pencil and paper: what stands at an address is a text, registers and words are found by their names.
type desk struct {
	lines  map[int64]string
	syms   map[string]int64
	words  map[int64]int64
	regs   map[string]int64
	pc     int64
	input  []int32
	result api.Result
}

// lay is a desk with a program on it.
func lay(a api.Asm) *desk {
	d := &desk{lines: map[int64]string{}, syms: map[string]int64{}, words: map[int64]int64{}, regs: map[string]int64{}}
	code, data := int64(0), int64(65536)
	for _, line := range strings.Split(asm.Print(a), "\n") {
		fields := strings.Fields(line)
		switch {
		case line == "":
		case fields[0] == ".word":
			d.syms[fields[1]] = data
			size, _ := strconv.ParseInt(fields[2], 10, 64)
			data = d.room(data, 4*max(1, size))
		case fields[0] == ".stack":
			size, _ := strconv.ParseInt(fields[1], 10, 64)
			d.room(data, size)
		case line[0] != '\t':
			d.syms[strings.TrimSuffix(line, ":")] = code
		default:
			d.lines[code] = line[1:]
			code += 4
		}
	}
	d.pc = d.syms[".start"]
	return d
}

// room makes words of so many bytes, and answers what is behind them.
func (d *desk) room(at, size int64) int64 {
	for end := at + size; at < end; at += 4 {
		d.words[at] = 0
	}
	return at
}

// run takes steps till there is an end.
func (d *desk) run(input []int32, fuel int) api.Result {
	d.input = input
	for d.result.End == 0 {
		line, there := d.lines[d.pc]
		switch {
		case !there:
			d.result.End = api.EndFault
		case d.result.Steps >= fuel:
			d.result.End = api.EndOpen
		default:
			d.result.Steps++
			d.step(strings.FieldsFunc(line, func(c rune) bool { return strings.ContainsRune(" ,()", c) }))
		}
	}
	d.result.Reads = len(input) - len(d.input)
	return d.result
}

// round is the word that is the same.
func round(n int64) int64 { return int64(int32(n)) }

// number is that of a text: a symbol's part, or way, or what it says.
func (d *desk) number(fields []string) int64 {
	last := fields[len(fields)-1]
	if fields[0] == "lw" || fields[0] == "sw" || fields[0] == "jalr" {
		last = fields[2]
	}
	if n, err := strconv.ParseInt(last, 10, 64); err == nil {
		return n
	}
	at := d.syms[last]
	low := at % 4096
	if low > 2047 {
		low -= 4096
	}
	switch fields[0] {
	case "lui":
		return (at - low) / 4096
	case "addi":
		return low
	}
	return at - d.pc
}

// step does one instruction, cut into its mnemonic and what it has.
func (d *desk) step(fields []string) {
	if i := slices.IndexFunc(fields, func(s string) bool { return s[0] == '%' }); i > 0 {
		fields = slices.Delete(fields, i, i+1)
	}
	name, next := fields[0], d.pc+4
	switch name {
	case "lw", "sw":
		d.memory(name, fields[1], round(d.regs[fields[3]]+d.number(fields)))
	case "ecall":
		d.call()
	case "jalr":
		next = round(d.regs[fields[3]]+d.number(fields)) &^ 1
		d.regs[fields[1]] = d.pc + 4
	case "jal":
		next = d.pc + d.number(fields)
		d.regs[fields[1]] = d.pc + 4
	case "beq", "bne":
		if (d.regs[fields[1]] == d.regs[fields[2]]) == (name == "beq") {
			next = d.pc + d.number(fields)
		}
	default:
		d.reckon(fields)
	}
	d.regs["x0"] = 0
	d.pc = next
}

// reckon goes by what TestStepRandom holds Step against.
func (d *desk) reckon(fields []string) {
	l := api.Line{}
	for l.Op = 1; asm.Mnemonic(l.Op) != fields[0]; {
		l.Op++
	}
	var a, b int64
	if l.Op >= api.Adds {
		a, b = d.regs[fields[2]], d.regs[fields[3]]
	} else {
		a, l.Num = d.regs[fields[2%len(fields)]], int32(d.number(fields))
	}
	out, _ := reckon(l, int32(a), int32(b), 0)
	d.regs[fields[1]] = int64(out)
}

func (d *desk) memory(name, reg string, at int64) {
	_, there := d.words[at]
	switch {
	case !there:
		d.result.End = api.EndFault
	case name == "sw":
		d.words[at] = d.regs[reg]
	default:
		d.regs[reg] = d.words[at]
	}
}

func (d *desk) call() {
	switch d.regs["x17"] {
	case 1:
		d.result.Trace = append(d.result.Trace, int32(d.regs["x10"]))
	case 2:
		d.regs["x10"] = 0
		if len(d.input) > 0 {
			d.regs["x10"] = int64(d.input[0])
			d.input = d.input[1:]
		}
	case 3:
		d.result.End, d.result.Value = api.EndDone, int32(d.regs["x10"])
	default:
		d.result.End = api.EndFault
	}
}

// program is a random one that does a good deal, mostly.
func (m *maker) program() api.Asm {
	a := api.Asm{Stack: m.Intn(20)}
	for _, name := range []string{"g", "a", "b"}[:m.Intn(4)] {
		a.Data = append(a.Data, api.Global{Name: name, Size: m.Intn(4)})
	}
	for range 1 + m.Intn(25) {
		a.Lines = append(a.Lines, m.doing(a)...)
	}
	if m.Intn(5) > 0 {
		a.Lines = append(a.Lines, ecall(3)...)
	}
	for _, sym := range []string{"f", "k", ".f.1"} {
		a.Lines = slices.Insert(a.Lines, m.Intn(len(a.Lines)+1), label(sym))
	}
	if m.Intn(2) == 0 {
		a.Lines = slices.Insert(a.Lines, m.Intn(4), label(".start"))
	}
	return a
}

// reg is one of few, mostly.
func (m *maker) reg() int { return one(m, 0, 5, 6, 7, 10, 10, 11, 2, 17, m.Intn(32)) }

func ins(op, d, a, b int, num int32) api.Line {
	return api.Line{Kind: api.LineIns, Op: op, D: d, A: a, B: b, Num: num}
}

// ecall is the one of that number.
func ecall(n int32) []api.Line {
	return []api.Line{ins(api.Addi, 17, 0, 0, n), ins(api.Ecall, 0, 0, 0, 0)}
}

// doing is an instruction, with what makes it one that mostly goes well.
func (m *maker) doing(a api.Asm) []api.Line {
	switch m.Intn(12) {
	case 0, 1, 2:
		return ecall(one[int32](m, 1, 1, 1, 1, 1, 2, 2, 2, 3, int32(m.Intn(6))))
	case 3, 4:
		return m.asking(a)
	case 5:
		return []api.Line{ins(api.Beq+m.Intn(2), 0, m.reg(), m.reg(), one[int32](m, -12, 8, 12, 16, 20, 24, int32(2*m.Intn(12)-8)))}
	case 6:
		if m.Intn(3) == 0 {
			return []api.Line{ins(api.Jalr, m.reg(), 0, 0, int32(one(m, 4, 1)*m.Intn(80)))}
		}
		return []api.Line{{Kind: api.LineIns, Op: api.Jal, D: m.reg(), Sym: one(m, "f", "k", ".f.1")}}
	case 7:
		return []api.Line{ins(api.Addi, m.reg(), 0, 0, int32(m.Intn(4096)-2048))}
	}
	l := m.Op(one(m, api.Lui, api.Addi+m.Intn(9), api.Adds+m.Intn(13), api.Adds+m.Intn(13)))
	l.D = one(m, l.D, 5, 6, 10)
	return []api.Line{l}
}

// asking asks or turns a word, mostly one that is there.
func (m *maker) asking(a api.Asm) []api.Line {
	base := one(m, 5, 6, 11)
	out := []api.Line{ins(api.Lui, base, 0, 0, 16)}
	if len(a.Data) > 0 && m.Intn(2) == 0 {
		sym := one(m, a.Data...).Name
		out = []api.Line{{Kind: api.LineIns, Op: api.Lui, D: base, Sym: sym}, {Kind: api.LineIns, Op: api.Addi, D: base, A: base, Sym: sym}}
	}
	offset := one[int32](m, 0, 0, 4, 8, 12, int32(m.Intn(80)-10))
	if m.Intn(2) == 0 {
		return append(out, ins(api.Lw, m.reg(), base, 0, offset))
	}
	return append(out, ins(api.Sw, 0, base, m.reg(), offset))
}

// P18.1 to P18.3: random programs, with pencil and paper.
func TestRandomPrograms(t *testing.T) {
	m := newMaker(183)
	found := map[int]int{}
	prints, reads, values := 0, 0, 0
	for range rounds(15000) {
		a, input, fuel := m.program(), m.Input(), one(m, -1, 3, 30, 100, 100, 300)
		words := slices.Clone(input)
		got, want := image(t, a).Run(input, fuel), lay(a).run(input, fuel)
		if !equal(got, want) {
			t.Fatalf("with %d, %d: %+v; want %+v\n%s", input, fuel, got, want, asm.Print(a))
		}
		if !slices.Equal(input, words) {
			t.Fatal("turned what it was given")
		}
		found[got.End]++
		prints += len(got.Trace)
		reads += got.Reads
		if got.Value != 0 {
			values++
		}
	}
	if len(found) != 3 || found[api.EndDone] < rounds(2000) || found[api.EndFault] < rounds(1000) || found[api.EndOpen] < rounds(1000) || prints < rounds(10000) || reads < rounds(3000) || values < rounds(800) {
		t.Error(found, prints, reads, values)
	}
}

// P18.4: with more fuel a run that ended ends the same; of one that didn't the trace goes on.
func TestMoreFuel(t *testing.T) {
	m := newMaker(184)
	ended, opened := 0, 0
	for range rounds(1000) {
		a, input := m.program(), m.Input()
		x := image(t, a)
		last := x.Run(input, -1)
		for fuel := range 100 {
			next := x.Run(input, fuel)
			if !walk.Begins(next, last) || last.End != api.EndOpen && !equal(next, last) {
				t.Fatalf("with %d, %d: %+v; was %+v\n%s", input, fuel, next, last, asm.Print(a))
			}
			if next.End == api.EndOpen && (next.Steps != fuel || last.End != api.EndOpen || next.Reads < last.Reads) {
				t.Fatalf("with %d, %d: %+v; was %+v\n%s", input, fuel, next, last, asm.Print(a))
			}
			last = next
		}
		if last.End == api.EndOpen {
			opened++
		} else {
			ended++
		}
	}
	if ended < rounds(500) || opened < rounds(50) {
		t.Error(ended, opened)
	}
}

// P18.5: a program that is printed and parsed runs as itself.
func TestPrintedAndParsed(t *testing.T) {
	m := newMaker(185)
	for range rounds(3000) {
		a, input := m.program(), m.Input()
		back, err, n := asm.Parse(asm.Print(a))
		if err != api.OK {
			t.Fatalf("line %d\n%s", n, asm.Print(a))
		}
		if got, want := image(t, back).Run(input, 300), image(t, a).Run(input, 300); !equal(got, want) {
			t.Fatalf("%+v; want %+v\n%s", got, want, asm.Print(a))
		}
	}
}

// P18.1, P18.3: instructions, told with numbers in the place of their symbols, run as the program.
func TestLinesRunAlike(t *testing.T) {
	m := newMaker(186)
	for range rounds(3000) {
		a, input := m.program(), m.Input()
		x := image(t, a)
		b := api.Asm{Data: a.Data, Stack: a.Stack}
		start, _ := x.At(".start")
		for i := range x.Len() {
			l, _ := x.Line(i)
			b.Lines = append(b.Lines, l)
		}
		b.Lines = slices.Insert(b.Lines, int(start)/4, label(".start"))
		if got, want := image(t, b).Run(input, 300), x.Run(input, 300); !equal(got, want) {
			t.Fatalf("%+v; want %+v\n%s", got, want, asm.Print(a))
		}
	}
}

// Rule 1: of any lines there is an image or an error, and of an image an end.
func TestAnyPrograms(t *testing.T) {
	m := newMaker(187)
	ran := 0
	for range rounds(10000) {
		a := api.Asm{Stack: m.Intn(100)}
		for range m.Intn(12) {
			l := m.Op(1 + m.Intn(sample.Ops))
			if m.Intn(20) == 0 {
				m.BendLine(&l)
			}
			a.Lines = append(a.Lines, l)
		}
		x, err := riscv.Load(a)
		if (err == api.OK) != (x != nil) {
			t.Fatal(err)
		}
		if r := x.Run(m.Input(), 200); x != nil && (r.End == 0 || r.Steps > 200) {
			t.Fatalf("%+v", r)
		} else if r.Steps > 1 {
			ran++
		}
	}
	if ran < rounds(2000) {
		t.Error(ran)
	}
}
