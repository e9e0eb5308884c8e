package regs

import (
	"brazier/api"
	"brazier/sets"
	"brazier/word"
)

// A writer lays down a function's lines. In its frame the slots are the lowest words, then comes what the machine's registers were, and where the function goes on when it is left.
type writer struct {
	list
	name  string
	spots []api.Spot
	slots int
	kept  []int // the numbers of the machine's registers that the spots have
	frame int
}

// written is a writer that has laid down all of v.
func written(v api.Vfn, live []*sets.Bits) writer {
	a := assigned(spans(v, live))
	w := writer{name: v.Name, spots: a.spots, slots: a.slots, kept: held(a.spots), frame: Frame(a.spots, a.slots)}
	w.label(v.Name)
	w.enter()
	w.begin(v.Params, live[0])
	for _, x := range v.Code {
		w.ins(x)
	}
	return w
}

// machine is the machine's register of a spot's number.
func machine(n int) int {
	if n == 0 {
		return s1
	}
	return s2 + n - 1
}

// at is a register and a number that add up to the address of the frame's word n. Those that sp doesn't reach are near one of the bases, each 4096 bytes above the other, the first that many above sp.
func (w *writer) at(n int) (int, int32) {
	high, low := word.Split(int32(wordBytes * n))
	if high == 0 {
		return sp, low
	}
	return base + int(high) - 1, low
}

// lastWord is the number of the frame's last word that is used.
func (w *writer) lastWord() int { return w.slots + len(w.kept) }

// bases sets as many as the frame needs: a call doesn't leave them as they were.
func (w *writer) bases() {
	for b, last := base, w.lastBase(); b <= last; b++ {
		w.withNum(api.Lui, b, zero, int32(b-base)+1)
		w.between(api.Adds, b, b, sp)
	}
}

// lastBase is the last one that the frame needs: a register below the first one, if it needs none.
func (w *writer) lastBase() int {
	b, _ := w.at(w.lastWord())
	return b
}

func (w *writer) enter() {
	w.plus(sp, int32(-w.frame))
	w.bases()
	w.each(w.store)
}

// leave goes on where ra says, with all as it was but a0.
func (w *writer) leave() {
	w.each(w.load)
	w.plus(sp, int32(w.frame))
	w.withNum(api.Jalr, zero, ra, 0)
}

// each does something to each register that the function leaves as it was, and its word of the frame.
func (w *writer) each(do func(reg, a int, n int32)) {
	for i, n := range w.kept {
		a, low := w.at(w.slots + i)
		do(machine(n), a, low)
	}
	a, low := w.at(w.lastWord())
	do(ra, a, low)
}

// begin gives the registers that are asked ahead of being turned their first words: the arguments, else 0.
func (w *writer) begin(params int, live *sets.Bits) {
	for r := range live.Each() {
		if r < params {
			w.put(r, a0+r)
		} else {
			w.put(r, zero)
		}
	}
}

// asked is the machine's register that has r's word: temp, if r is in a slot.
func (w *writer) asked(r, temp int) int {
	if r == none {
		return zero
	}
	s := w.spots[r]
	if s.Kind == api.SpotReg {
		return machine(s.N)
	}
	a, n := w.at(s.N)
	w.load(temp, a, n)
	return temp
}

// into lets a machine's register have r's word.
func (w *writer) into(d, r int) { w.move(d, w.asked(r, d)) }

// put lets r have a machine's register's word.
func (w *writer) put(r, from int) {
	s := w.spots[r]
	if s.Kind == api.SpotReg {
		w.move(machine(s.N), from)
		return
	}
	a, n := w.at(s.N)
	w.store(from, a, n)
}

// turn lets r have what do makes in a machine's register.
func (w *writer) turn(r int, do func(d int)) {
	d := first
	if s := w.spots[r]; s.Kind == api.SpotReg {
		d = machine(s.N)
	}
	do(d)
	w.put(r, d)
}
