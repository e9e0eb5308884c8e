package code_test

import (
	"fmt"
	"math/rand"
	"strconv"
	"strings"
	"testing"

	"brazier/api"
	"brazier/asm"
	"brazier/code"
	"brazier/sample"
)

// A maker makes random lines.
type maker struct {
	*rand.Rand
	*sample.Maker
}

func newMaker(seed int64) *maker {
	r := rand.New(rand.NewSource(seed))
	return &maker{Rand: r, Maker: sample.New(r.Intn)}
}

func rounds(n int) int {
	if testing.Short() {
		return n / 10
	}
	return n
}

// patterns are the words of the instructions, by their numbers from 1 on, the highest bit first: bits, registers (five bits), and bits of Num, from one down to another.
func patterns() []string {
	return []string{
		"N19:0 D 0110111",
		"N11:0 A 000 D 0010011", "N11:0 A 010 D 0010011", "N11:0 A 011 D 0010011", "N11:0 A 100 D 0010011", "N11:0 A 110 D 0010011", "N11:0 A 111 D 0010011",
		"0000000 N4:0 A 001 D 0010011", "0000000 N4:0 A 101 D 0010011", "0100000 N4:0 A 101 D 0010011",
		"0000000 B A 000 D 0110011", "0100000 B A 000 D 0110011", "0000000 B A 001 D 0110011", "0000000 B A 010 D 0110011", "0000000 B A 011 D 0110011", "0000000 B A 100 D 0110011", "0000000 B A 101 D 0110011", "0100000 B A 101 D 0110011", "0000000 B A 110 D 0110011", "0000000 B A 111 D 0110011",
		"0000001 B A 000 D 0110011", "0000001 B A 100 D 0110011", "0000001 B A 110 D 0110011",
		"N11:0 A 010 D 0000011", "N11:5 B A 010 N4:0 0100011",
		"N12:12 N10:5 B A 000 N4:1 N11:11 1100011", "N12:12 N10:5 B A 001 N4:1 N11:11 1100011",
		"N20:20 N10:1 N11:11 N19:12 D 1101111", "N11:0 A 000 D 1100111", "00000000000000000000000001110011",
	}
}

// laid is the word of an instruction that may be, by its pattern: a text of bits.
func laid(l api.Line) uint32 {
	var bits strings.Builder
	for _, field := range strings.Fields(patterns()[l.Op-1]) {
		switch field[0] {
		case 'D':
			fmt.Fprintf(&bits, "%05b", l.D)
		case 'A':
			fmt.Fprintf(&bits, "%05b", l.A)
		case 'B':
			fmt.Fprintf(&bits, "%05b", l.B)
		case 'N':
			high, low := ends(field)
			whole := fmt.Sprintf("%032b", uint32(l.Num))
			bits.WriteString(whole[31-high : 32-low])
		default:
			bits.WriteString(field)
		}
	}
	w, err := strconv.ParseUint(bits.String(), 2, 32)
	if err != nil || bits.Len() != 32 {
		panic(bits.String())
	}
	return uint32(w)
}

// ends are the highest and the lowest of Num's bits in a field.
func ends(field string) (int, int) {
	first, second, _ := strings.Cut(field[1:], ":")
	high, _ := strconv.Atoi(first)
	low, _ := strconv.Atoi(second)
	return high, low
}

// read is the line of a word, by the patterns: false, if it has none's bits.
func read(w uint32) (api.Line, bool) {
	for i, pattern := range patterns() {
		l := api.Line{Kind: api.LineIns, Op: i + 1}
		if readAs(&l, fmt.Sprintf("%032b", w), strings.Fields(pattern)) {
			return l, true
		}
	}
	return api.Line{}, false
}

func readAs(l *api.Line, bits string, pattern []string) bool {
	num := []byte(strings.Repeat("0", 32))
	top := 0
	for _, field := range pattern {
		size, high, low := len(field), 0, 0
		switch field[0] {
		case 'D', 'A', 'B':
			size = 5
		case 'N':
			high, low = ends(field)
			size = high - low + 1
			top = max(top, high)
		}
		piece := bits[:size]
		bits = bits[size:]
		n, _ := strconv.ParseInt(piece, 2, 32)
		switch field[0] {
		case 'D':
			l.D = int(n)
		case 'A':
			l.A = int(n)
		case 'B':
			l.B = int(n)
		case 'N':
			copy(num[31-high:], piece)
		default:
			if piece != field {
				return false
			}
		}
	}
	if l.Op != api.Lui && (l.Op < api.Slli || l.Op > api.Srai) { // the highest bit is the sign
		for i := range 31 - top {
			num[i] = num[31-top]
		}
	}
	n, _ := strconv.ParseUint(string(num), 2, 32)
	l.Num = int32(uint32(n))
	return true
}

// coded tells a line's word, and that it is the word's line.
func coded(t *testing.T, text string, want uint32) {
	t.Helper()
	l, there := asm.ParseLine("\t" + text)
	if !there {
		t.Fatal(text)
	}
	is(t, l, want)
}

func is(t *testing.T, l api.Line, want uint32) {
	t.Helper()
	if got, may := code.Encode(l); !may || got != want {
		t.Errorf("%q: %08x, %v; want %08x", asm.PrintLine(l), got, may, want)
	}
	if got, may := code.Decode(want); !may || got != l {
		t.Errorf("%08x: %+v, %v; want %+v", want, got, may, l)
	}
}

// isNone tells of a line that it has no word.
func isNone(t *testing.T, l api.Line) {
	t.Helper()
	if got, may := code.Encode(l); may || got != 0 {
		t.Errorf("%+v: %08x, %v", l, got, may)
	}
	for _, list := range [][]api.Line{{l}, {nop(), l}, {l, nop()}} {
		if b, may := code.Bytes(list); may || len(b) != 0 {
			t.Errorf("%+v: %x, %v", l, b, may)
		}
	}
}

func nop() api.Line { return api.Line{Kind: api.LineIns, Op: api.Addi} }
