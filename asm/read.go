package asm

import (
	"strings"

	"brazier/api"
	"brazier/word"
)

// pieces takes a text's pieces, one after the other: empty ones behind the last.
func pieces(s, between string) func() string {
	return func() string {
		piece, rest, _ := strings.Cut(s, between)
		s = rest
		return piece
	}
}

// readLine is the line that is printed as s, if one is.
func readLine(s string) api.Line {
	text, isIns := strings.CutPrefix(s, tab)
	if !isIns {
		return label(strings.TrimSuffix(s, colon))
	}
	mnemonic, rest, _ := strings.Cut(text, blank)
	l := api.Line{Kind: api.LineIns, Op: named(mnemonic)}
	next := pieces(rest, comma)
	has, _ := operands(l.Op)
	for _, o := range has {
		readOperand(&l, o, next())
	}
	return l
}

// named is the number of a mnemonic: 0, which is none's, of another text.
func named(mnemonic string) int {
	for op := range mnemonics {
		if mnemonics[op] == mnemonic {
			return op
		}
	}
	return 0
}

func readOperand(l *api.Line, o operand, s string) {
	switch o {
	case regD:
		l.D = readRegister(s)
	case regA:
		l.A = readRegister(s)
	case regB:
		l.B = readRegister(s)
	case num:
		readNum(l, s)
	case place:
		n, a, _ := strings.Cut(s, "(")
		readNum(l, n)
		l.A = readRegister(strings.TrimSuffix(a, ")"))
	}
}

func readRegister(s string) int { return readInt(strings.TrimPrefix(s, "x")) }

// readNum takes what is no number for a symbol.
func readNum(l *api.Line, s string) {
	n, err := word.Parse(s)
	if err == api.OK {
		l.Num = n
		return
	}
	open, shut := brackets(l.Op)
	l.Sym = strings.TrimSuffix(strings.TrimPrefix(s, open), shut)
}

func readInt(s string) int {
	n, _ := word.Parse(s)
	return int(n)
}

// A reader reads a program line by line.
type reader struct {
	api.Asm
	behind bool // is it behind the stack's line?
}

// take is of the next line: false, if it may not stand there.
func (r *reader) take(s string) bool {
	if r.behind {
		l, may := ParseLine(s)
		r.Lines = append(r.Lines, l)
		return may
	}
	next := pieces(s, blank)
	switch next() {
	case wordLine:
		g := api.Global{Name: next(), Size: readInt(next())}
		r.Data = append(r.Data, g)
		return mayGlobal(g) && globalText(g) == s && len(r.Data) <= api.MaxGlobals
	case stackLine:
		r.Stack, r.behind = readInt(next()), true
		return mayStack(r.Stack) && stackText(r.Stack) == s
	}
	return false
}
