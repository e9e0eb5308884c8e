package riscv

import (
	"brazier/api"
	"brazier/word"
)

// How many bytes an instruction has, and a word.
const (
	insBytes  = 4
	wordBytes = 4
)

// firstWord is the address of the first word of Data.
const firstWord = 65536

// put is of a symbol's address: false, if it has one.
func (m *Image) put(sym string, at int) bool {
	_, there := m.symbols[sym]
	m.symbols[sym] = int32(at)
	return !there
}

// lay gives labels and Data their addresses: false, if a symbol has two.
func (m *Image) lay(a api.Asm) bool {
	instructions, apart := 0, true
	for _, l := range a.Lines {
		if l.Kind == api.LineIns {
			instructions++
		} else if !m.put(l.Sym, instructions*insBytes) {
			apart = false
		}
	}
	for _, g := range a.Data {
		if !m.put(g.Name, firstWord+m.words*wordBytes) {
			apart = false
		}
		m.words += globalWords(g)
	}
	m.words += (a.Stack + wordBytes - 1) / wordBytes
	return apart
}

// globalWords: what isn't an array is a word.
func globalWords(g api.Global) int { return max(g.Size, 1) }

func dataWords(data []api.Global) int {
	n := 0
	for _, g := range data {
		n += globalWords(g)
	}
	return n
}

// knows is whether each symbol of an instruction has its address.
func (m *Image) knows(l []api.Line) bool {
	for _, x := range l {
		if _, there := m.symbols[x.Sym]; x.Sym != "" && !there {
			return false
		}
	}
	return true
}

// resolve takes the instructions over, with numbers in the place of symbols: false, if one is farther than its Jal may say.
func (m *Image) resolve(l []api.Line) bool {
	for _, x := range l {
		if x.Kind != api.LineIns {
			continue
		}
		if x.Sym != "" {
			x.Num = m.number(x)
			x.Sym = ""
		}
		if x.Op == api.Jal && !word.Fits(x.Num, 21) {
			return false
		}
		m.lines = append(m.lines, x)
	}
	return true
}

// number is what stands for the symbol of the next instruction.
func (m *Image) number(l api.Line) int32 {
	at := m.symbols[l.Sym]
	high, low := word.Split(at)
	switch l.Op {
	case api.Lui:
		return high
	case api.Addi:
		return low
	}
	return at - int32(len(m.lines)*insBytes)
}
