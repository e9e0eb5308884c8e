package pick

import (
	"slices"

	"brazier/api"
)

// none is the number of a register that isn't there.
const none = -1

// A picker makes a function's code, block by block.
type picker struct {
	code  []api.Vins
	known map[int]int32 // of registers that an InNum turned last, in this block, its number
}

func (p *picker) add(l ...api.Vins) { p.code = append(p.code, l...) }

func (p *picker) block(n int, b api.Block) {
	clear(p.known)
	p.add(place(api.PLabel, none, n))
	for _, x := range b.Ins {
		p.add(p.picked(x)...)
		p.turn(x)
	}
	p.end(b, n+1)
}

// turn goes on behind an instruction.
func (p *picker) turn(x api.Ins) {
	if x.Kind == api.InNum {
		p.known[x.D] = x.Num
		return
	}
	delete(p.known, x.D)
}

// picked is the code of an instruction.
func (p *picker) picked(x api.Ins) []api.Vins {
	switch x.Kind {
	case api.InUn:
		return unary(x)
	case api.InBin:
		return p.binary(x)
	}
	if op := likeness(x); op != 0 {
		return []api.Vins{{Op: op, D: x.D, A: x.A, B: x.B, Num: x.Num, Name: x.Name, Args: slices.Clone(x.Args)}}
	}
	return nil
}

// likeness is the op that has all that an instruction has: 0, if there is none.
func likeness(x api.Ins) int {
	switch {
	case x.Kind == api.InNum:
		return api.PLi
	case x.Kind == api.InCopy:
		return api.PMv
	case x.Kind == api.InLoad && x.A == none:
		return api.PGet
	case x.Kind == api.InLoad:
		return api.PIdx
	case x.Kind == api.InStore && x.A == none:
		return api.PSet
	case x.Kind == api.InStore:
		return api.PPut
	case x.Kind == api.InCall:
		return api.PCall
	case x.Kind == api.InRead:
		return api.PRead
	case x.Kind == api.InPrint:
		return api.PPrint
	}
	return 0
}

// binary is by a number, if one is known and there is an instruction for that: B's is asked first.
func (p *picker) binary(x api.Ins) []api.Vins {
	if n, known := p.known[x.B]; known {
		if v, fits := byNumber(x.Op, x.D, x.A, n); fits {
			return []api.Vins{v}
		}
	}
	if n, known := p.known[x.A]; known && turnsRound(x.Op) {
		if v, fits := byNumber(x.Op, x.D, x.B, n); fits {
			return []api.Vins{v}
		}
	}
	return byRegisters(x)
}

// end is of a block with that number behind it.
func (p *picker) end(b api.Block, next int) {
	switch {
	case b.Kind == api.BlJump:
		p.jump(b.To, next)
	case b.Kind == api.BlBranch && b.To == next:
		p.add(place(api.PBeqz, b.A, b.Else))
	case b.Kind == api.BlBranch:
		p.add(place(api.PBnez, b.A, b.To))
		p.jump(b.Else, next)
	case b.Kind == api.BlReturn:
		p.add(between(api.PRet, none, b.A, none))
	}
}

// jump is none, if what is next is gone on to all the same.
func (p *picker) jump(to, next int) {
	if to != next {
		p.add(place(api.PJump, none, to))
	}
}
