package code_test

import (
	"bytes"
	"encoding/binary"
	"math"
	"slices"
	"testing"

	"brazier/api"
	"brazier/asm"
	"brazier/code"
	"brazier/sample"
)

// P19.1, P19.2: words that any assembler of the machine makes.
func TestKnownWords(t *testing.T) {
	for text, want := range map[string]uint32{
		"addi x5, x0, -1": 0xfff00293, "ecall": 0x00000073, "addi x0, x0, 0": 0x00000013, "jalr x0, 0(x1)": 0x00008067, "lui x5, 74565": 0x123452b7, "lui x31, 1048575": 0xffffffb7,
		"lw x9, 8(x2)": 0x00812483, "sw x9, 8(x2)": 0x00912423, "addi x2, x2, -16": 0xff010113, "sw x1, 12(x2)": 0x00112623, "lw x1, 12(x2)": 0x00c12083, "sw x8, -20(x8)": 0xfe842623,
		"add x10, x10, x11": 0x00b50533, "sub x10, x10, x11": 0x40b50533, "sll x10, x10, x11": 0x00b51533, "slt x10, x10, x11": 0x00b52533, "sltu x10, x0, x10": 0x00a03533, "xor x10, x10, x11": 0x00b54533, "srl x10, x10, x11": 0x00b55533, "sra x10, x10, x11": 0x40b55533, "or x10, x10, x11": 0x00b56533, "and x10, x10, x11": 0x00b57533,
		"mul x10, x10, x11": 0x02b50533, "div x10, x10, x11": 0x02b54533, "rem x10, x10, x11": 0x02b56533,
		"slti x10, x10, 1": 0x00152513, "sltiu x10, x10, 1": 0x00153513, "xori x10, x10, -1": 0xfff54513, "ori x10, x10, 1": 0x00156513, "andi x10, x10, 1": 0x00157513, "slli x10, x10, 2": 0x00251513, "srli x10, x10, 2": 0x00255513, "srai x10, x10, 31": 0x41f55513,
		"beq x10, x11, 8": 0x00b50463, "bne x10, x0, -4": 0xfe051ee3, "jal x1, 0": 0x000000ef, "jal x0, -4": 0xffdff06f, "jal x1, 2048": 0x001000ef, "jal x1, -1048576": 0x800000ef, "beq x0, x0, 2048": 0x000000e3, "beq x0, x0, -4096": 0x80000063,
	} {
		coded(t, text, want)
	}
}

// P19.1: each instruction, each bit of each operand by itself, and the ends of Num.
func TestEachBit(t *testing.T) {
	for op := 1; op <= sample.Ops; op++ {
		l := api.Line{Kind: api.LineIns, Op: op}
		is(t, l, laid(l))
		for _, field := range []byte(sample.Fields(op)) {
			for bit := range 32 {
				x := l
				switch n := 1 << bit; {
				case field == 'D':
					x.D = n
				case field == 'A':
					x.A = n
				case field == 'B':
					x.B = n
				default:
					x.Num = int32(uint32(1) << bit)
				}
				if asm.MayLine(x) {
					is(t, x, laid(x))
				} else {
					isNone(t, x)
				}
			}
			from, to, by := sample.Range(field)
			for _, n := range []int32{from, to, from + by, to - by, -from, -by} {
				if x := (api.Line{Kind: api.LineIns, Op: op, Num: n}); asm.MayLine(x) {
					is(t, x, laid(x))
				}
			}
		}
	}
}

// P19.1: what has no word.
func TestEncodeNone(t *testing.T) {
	isNone(t, api.Line{})
	isNone(t, api.Line{Kind: api.LineLabel, Sym: "a"})
	isNone(t, api.Line{Kind: api.LineLabel, Op: api.Ecall})
	isNone(t, api.Line{Op: api.Ecall})
	isNone(t, api.Line{Kind: 3, Op: api.Ecall})
	for _, op := range []int{0, -1, 31, 40, 53, math.MaxInt, math.MinInt, 1<<32 + 1} {
		isNone(t, api.Line{Kind: api.LineIns, Op: op})
	}
	for op := 1; op <= sample.Ops; op++ {
		isNone(t, api.Line{Kind: api.LineIns, Op: op, Sym: "a"})
		isNone(t, api.Line{Kind: api.LineIns, Op: op, Sym: " "})
		isNone(t, api.Line{Kind: api.LineIns, Op: op, D: 32})
		isNone(t, api.Line{Kind: api.LineIns, Op: op, A: -1})
		isNone(t, api.Line{Kind: api.LineIns, Op: op, B: math.MinInt})
		isNone(t, api.Line{Kind: api.LineIns, Op: op, Num: math.MinInt32})
	}
}

// P19.1 to P19.3: random lines, some of them bent.
func TestRandomLines(t *testing.T) {
	m := newMaker(191)
	no := 0
	for range rounds(30000) {
		l := m.Op(1 + m.Intn(sample.Ops))
		is(t, l, laid(l))
		m.BendLine(&l)
		if l.Kind == api.LineIns && l.Sym == "" && asm.MayLine(l) {
			is(t, l, laid(l))
		} else {
			isNone(t, l)
			no++
		}
	}
	if no < rounds(10000) {
		t.Error(no)
	}
}

// decoded tells what the patterns tell of a word; is what Encode makes of it the word?
func decoded(t *testing.T, w uint32) bool {
	t.Helper()
	want, there := read(w)
	got, may := code.Decode(w)
	if may != there || got != want {
		t.Fatalf("%08x: %+v, %v; want %+v, %v", w, got, may, want, there)
	}
	if again, is := code.Encode(got); is != may || may && again != w {
		t.Fatalf("%08x: %+v is %08x", w, got, again)
	}
	return may
}

// P19.2, P19.3: words of instructions with a bit or two turned, and random ones.
func TestDecode(t *testing.T) {
	m := newMaker(192)
	found, none := 0, 0
	for range rounds(300) {
		for op := 1; op <= sample.Ops; op++ {
			w := laid(m.Op(op))
			turned := w ^ 1<<m.Intn(32)
			for _, x := range []uint32{turned, turned ^ 1<<m.Intn(32), turned ^ 1<<m.Intn(32) ^ 1<<m.Intn(32), m.Uint32(), m.Uint32() | 3} {
				if decoded(t, x) {
					found++
				} else {
					none++
				}
			}
		}
	}
	if found < rounds(10000) || none < rounds(10000) {
		t.Error(found, none)
	}
}

// P19.2: each word of the lowest seven, the middle three and the highest seven bits.
func TestDecodeStamps(t *testing.T) {
	for low := range uint32(128) {
		for mid := range uint32(8) {
			for _, high := range []uint32{0, 1, 2, 31, 32, 33, 64, 127} {
				decoded(t, low|mid<<12|high<<25)
				decoded(t, low|mid<<12|high<<25|0x01ff8f80)
			}
		}
	}
	for _, w := range []uint32{0, math.MaxUint32, 0x00100073, 0x000000f3, 0x00008073, 0x02000013 | 1<<12, 0x40001013, 0x40004033, 0x02001033, 0x00001067, 0x00000003, 0x00002063, 0x0000000f} {
		if l, there := code.Decode(w); there || l != (api.Line{}) {
			t.Errorf("%08x: %+v", w, l)
		}
	}
}

// P19.2: words as bytes, and back as far as they are some's.
func TestBytesAndLines(t *testing.T) {
	l := []api.Line{nop(), {Kind: api.LineIns, Op: api.Lui, D: 5, Num: 0x12345}, {Kind: api.LineIns, Op: api.Ecall}}
	want := []byte{0x13, 0, 0, 0, 0xb7, 0x52, 0x34, 0x12, 0x73, 0, 0, 0}
	if b, may := code.Bytes(l); !may || !bytes.Equal(b, want) {
		t.Errorf("%x, %v", b, may)
	}
	for n := range len(want) + 1 {
		back, size := code.Lines(want[:n])
		if size != n/4*4 || !slices.Equal(back, l[:n/4]) {
			t.Errorf("%d: %+v, %d", n, back, size)
		}
	}
	for _, at := range []int{0, 4, 8} {
		b := slices.Clone(want)
		b[at] = 0
		if back, size := code.Lines(b); size != at || !slices.Equal(back, l[:at/4]) {
			t.Errorf("%d: %+v, %d", at, back, size)
		}
	}
	for _, none := range [][]api.Line{nil, {}} {
		if b, may := code.Bytes(none); !may || len(b) != 0 {
			t.Errorf("%x, %v", b, may)
		}
	}
	for _, none := range [][]byte{nil, {}, {0x13}, {0x13, 0, 0}, {0, 0, 0, 0, 0x13, 0, 0, 0}} {
		if back, size := code.Lines(none); len(back) != 0 || size != 0 {
			t.Errorf("%+v, %d", back, size)
		}
	}
}

// P19.2, P19.3: random lists.
func TestRandomLists(t *testing.T) {
	m := newMaker(193)
	for range rounds(3000) {
		var l []api.Line
		var want []byte
		for range m.Intn(8) {
			x := m.Op(1 + m.Intn(sample.Ops))
			l = append(l, x)
			want = binary.LittleEndian.AppendUint32(want, laid(x))
		}
		b, may := code.Bytes(l)
		if !may || !bytes.Equal(b, want) {
			t.Fatalf("%+v: %x; want %x", l, b, want)
		}
		if back, size := code.Lines(b); size != len(b) || !slices.Equal(back, l) {
			t.Fatalf("%x: %+v, %d; want %+v", b, back, size, l)
		}
		for range 4 {
			b = append(b, byte(m.Intn(256)))
		}
		count := 0
		for count < len(b)/4 {
			if _, there := read(binary.LittleEndian.Uint32(b[4*count:])); !there {
				break
			}
			count++
		}
		back, size := code.Lines(b)
		if size != 4*count || len(back) != count {
			t.Fatalf("%x: %+v, %d; want %d", b, back, size, count)
		}
	}
}

// Rules 4 and 6: what is handed in stays as it is, its spare room too; answers are new memory.
func TestArgumentsStay(t *testing.T) {
	m := newMaker(194)
	for range rounds(2000) {
		room := []api.Line{m.Op(1 + m.Intn(30)), m.Op(1 + m.Intn(30)), {Sym: "spare"}}
		kept := slices.Clone(room)
		b, _ := code.Bytes(room[:2])
		bytesKept := slices.Clone(b)
		back, _ := code.Lines(b)
		if !slices.Equal(room, kept) || !bytes.Equal(b, bytesKept) {
			t.Fatalf("%+v, %x; was %+v, %x", room, b, kept, bytesKept)
		}
		clear(b[:cap(b)])
		if !slices.Equal(back, kept[:2]) {
			t.Fatalf("%+v", back)
		}
		clear(back[:cap(back)])
		if again, _ := code.Bytes(room[:2]); !bytes.Equal(again, bytesKept) || !slices.Equal(room, kept) {
			t.Fatalf("%x; was %x", again, bytesKept)
		}
	}
}

// P19.3: no two lines have one word; all that may be of one instruction.
func TestApart(t *testing.T) {
	seen := map[uint32]api.Line{}
	m := newMaker(195)
	for range rounds(20000) {
		l := m.Op(1 + m.Intn(sample.Ops))
		w, _ := code.Encode(l)
		if other, there := seen[w]; there && other != l {
			t.Fatalf("%08x is %+v and %+v", w, l, other)
		}
		seen[w] = l
	}
	for num := int32(-4096); num < 4096; num += 2 {
		l := api.Line{Kind: api.LineIns, Op: api.Bne, A: 3, B: 21, Num: num}
		is(t, l, laid(l))
	}
	for num := int32(-2048); num < 2048; num++ {
		l := api.Line{Kind: api.LineIns, Op: api.Sw, A: 3, B: 21, Num: num}
		is(t, l, laid(l))
	}
}
