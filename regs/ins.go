package regs

import (
	"brazier/api"
	"brazier/word"
)

// place is the name of one of the function's.
func (w *writer) place(n int32) string { return "." + w.name + "." + word.Dec(n) }

func (w *writer) ins(x api.Vins) {
	switch x.Op {
	case api.PLi:
		w.turn(x.D, func(d int) { w.number(d, x.Num) })
	case api.PMv:
		w.turn(x.D, func(d int) { w.into(d, x.A) })
	case api.PGet, api.PSet, api.PIdx, api.PPut:
		w.memory(x)
	case api.PCall:
		w.calling(x)
	case api.PRead:
		w.ecall(toRead)
		w.put(x.D, a0)
	case api.PPrint:
		w.into(a0, x.A)
		w.ecall(toPrint)
	case api.PRet:
		w.into(a0, x.A)
		w.leave()
	case api.PLabel, api.PJump, api.PBnez, api.PBeqz:
		w.way(x)
	default:
		w.reckon(x)
	}
}

// reckon is of the machine's own instructions: those up to Srai have a number.
func (w *writer) reckon(x api.Vins) {
	a := w.asked(x.A, first)
	if x.Op <= api.Srai {
		w.turn(x.D, func(d int) { w.withNum(x.Op, d, a, x.Num) })
		return
	}
	b := w.asked(x.B, second)
	w.turn(x.D, func(d int) { w.between(x.Op, d, a, b) })
}

// memory asks or turns a global, or an array's word.
func (w *writer) memory(x api.Vins) {
	w.addressOf(x.Name)
	if x.Op == api.PIdx || x.Op == api.PPut {
		w.withNum(api.Slli, second, w.asked(x.A, second), 2)
		w.between(api.Adds, address, address, second)
	}
	if x.Op == api.PGet || x.Op == api.PIdx {
		w.turn(x.D, func(d int) { w.load(d, address, 0) })
		return
	}
	w.store(w.asked(x.B, first), address, 0)
}

func (w *writer) calling(x api.Vins) {
	for i, r := range x.Args {
		w.into(a0+i, r)
	}
	w.jump(ra, x.Name)
	w.bases()
	if x.D != none {
		w.put(x.D, a0)
	}
}

// way is a place, or what goes on to one. A branch doesn't reach far, so it goes past the jump where it isn't to go there.
func (w *writer) way(x api.Vins) {
	switch x.Op {
	case api.PLabel:
		w.label(w.place(x.Num))
		return
	case api.PBnez:
		w.unless(api.Beq, w.asked(x.A, first))
	case api.PBeqz:
		w.unless(api.Bne, w.asked(x.A, first))
	}
	w.jump(zero, w.place(x.Num))
}
