package code

import "brazier/api"

// How many bytes a word has.
const wordBytes = 4

// Where the registers lie in a word, and the bits that tell instructions apart: each from that bit on.
const (
	atD    = 7
	atMid  = 12
	atA    = 15
	atB    = 20
	atHigh = 25
)

// A form is how an instruction's operands lie in its word.
type form int

const (
	none   form = iota
	alone       // no operands
	three       // D, A, B
	small       // D, A, 12 bits of Num
	shift       // D, A, 5 bits of Num
	store       // A, B, 12 bits of Num
	branch      // A, B, 13 bits of Num
	upper       // D, 20 bits of Num
	far         // D, 21 bits of Num
)

// A stamp is the bits that tell an instruction from the others: the lowest seven, three in the middle, the highest seven.
type stamp struct{ low, mid, high uint32 }

func (s stamp) word() uint32 { return s.low | s.mid<<atMid | s.high<<atHigh }

// A row is an instruction's form and stamp.
type row struct {
	form
	stamp
}

// rows are by the instructions' numbers.
var rows = [...]row{
	api.Lui:   {upper, stamp{55, 0, 0}},
	api.Addi:  {small, stamp{19, 0, 0}},
	api.Slti:  {small, stamp{19, 2, 0}},
	api.Sltiu: {small, stamp{19, 3, 0}},
	api.Xori:  {small, stamp{19, 4, 0}},
	api.Ori:   {small, stamp{19, 6, 0}},
	api.Andi:  {small, stamp{19, 7, 0}},
	api.Slli:  {shift, stamp{19, 1, 0}},
	api.Srli:  {shift, stamp{19, 5, 0}},
	api.Srai:  {shift, stamp{19, 5, 32}},
	api.Adds:  {three, stamp{51, 0, 0}},
	api.Subs:  {three, stamp{51, 0, 32}},
	api.Slls:  {three, stamp{51, 1, 0}},
	api.Slts:  {three, stamp{51, 2, 0}},
	api.Sltus: {three, stamp{51, 3, 0}},
	api.Xors:  {three, stamp{51, 4, 0}},
	api.Srls:  {three, stamp{51, 5, 0}},
	api.Sras:  {three, stamp{51, 5, 32}},
	api.Ors:   {three, stamp{51, 6, 0}},
	api.Ands:  {three, stamp{51, 7, 0}},
	api.Muls:  {three, stamp{51, 0, 1}},
	api.Divs:  {three, stamp{51, 4, 1}},
	api.Rems:  {three, stamp{51, 6, 1}},
	api.Lw:    {small, stamp{3, 2, 0}},
	api.Sw:    {store, stamp{35, 2, 0}},
	api.Beq:   {branch, stamp{99, 0, 0}},
	api.Bne:   {branch, stamp{99, 1, 0}},
	api.Jal:   {far, stamp{111, 0, 0}},
	api.Jalr:  {small, stamp{103, 0, 0}},
	api.Ecall: {alone, stamp{115, 0, 0}},
}

// seen is what a word's stamp is, if it is of that form: what isn't told by a stamp there is 0.
func seen(f form, w uint32) stamp {
	s := stamp{low: w % (1 << atD)}
	switch f {
	case alone, three, shift:
		s.high = w >> atHigh
		fallthrough
	case small, store, branch:
		s.mid = w >> atMid % 8
	}
	return s
}

// A piece is so many of Num's bits, from that one on, which lie in the word at that place.
type piece struct{ from, bits, at int }

// pieces are Num's, the lowest first.
func pieces(f form) []piece {
	switch f {
	case small:
		return []piece{{0, 12, 20}}
	case shift:
		return []piece{{0, 5, 20}}
	case store:
		return []piece{{0, 5, 7}, {5, 7, 25}}
	case branch:
		return []piece{{1, 4, 8}, {5, 6, 25}, {11, 1, 7}, {12, 1, 31}}
	case upper:
		return []piece{{0, 20, 12}}
	case far:
		return []piece{{1, 10, 21}, {11, 1, 20}, {12, 8, 12}, {20, 1, 31}}
	}
	return nil
}
