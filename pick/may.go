package pick

import (
	"math"

	"brazier/api"
	"brazier/blocks"
)

// May: P15.2.
func May(v api.Vfn) bool {
	return blocks.MayHead(v.Name, v.Params, v.Regs) && mayLast(v.Code) && mayPlaces(v.Code) &&
		blocks.Every(v.Code, func(x api.Vins) bool { return mayIns(x, v.Regs) })
}

// mayLast is whether nothing goes on behind the code.
func mayLast(code []api.Vins) bool {
	if len(code) == 0 {
		return false
	}
	last := code[len(code)-1].Op
	return last == api.PRet || last == api.PJump
}

// mayPlaces is whether each jump has its label, and no label is there twice.
func mayPlaces(code []api.Vins) bool {
	labels := map[int32]int{}
	for _, x := range code {
		if x.Op == api.PLabel {
			labels[x.Num]++
		}
	}
	return blocks.Every(code, func(x api.Vins) bool {
		return x.Op != api.PLabel && !jumps(x.Op) || labels[x.Num] == 1
	})
}

func jumps(op int) bool { return op == api.PJump || op == api.PBnez || op == api.PBeqz }

// A shape is what an op has.
type shape struct {
	d, a, b     blocks.Need
	least, most int32 // of Num
	named, args bool
}

// shapeOf is false of ops that aren't known.
func shapeOf(op int) (shape, bool) {
	const always, perhaps = blocks.Always, blocks.Perhaps
	switch {
	case op >= api.Addi && op <= api.Andi:
		return shape{d: always, a: perhaps, least: -1 << 11, most: 1<<11 - 1}, true
	case op >= api.Slli && op <= api.Srai:
		return shape{d: always, a: perhaps, most: 31}, true
	case op >= api.Adds && op <= api.Rems:
		return shape{d: always, a: perhaps, b: perhaps}, true
	}
	switch op {
	case api.PLi:
		return shape{d: always, least: math.MinInt32, most: math.MaxInt32}, true
	case api.PMv:
		return shape{d: always, a: always}, true
	case api.PGet:
		return shape{d: always, named: true}, true
	case api.PSet:
		return shape{b: always, named: true}, true
	case api.PIdx:
		return shape{d: always, a: always, named: true}, true
	case api.PPut:
		return shape{a: always, b: always, named: true}, true
	case api.PCall:
		return shape{d: perhaps, named: true, args: true}, true
	case api.PRead:
		return shape{d: always}, true
	case api.PPrint, api.PRet:
		return shape{a: always}, true
	case api.PLabel, api.PJump:
		return shape{most: math.MaxInt32}, true
	case api.PBnez, api.PBeqz:
		return shape{a: always, most: math.MaxInt32}, true
	}
	return shape{}, false
}

// mayIns is whether x has just what its op has, of so many registers.
func mayIns(x api.Vins, regs int) bool {
	s, known := shapeOf(x.Op)
	return known && s.d.Fits(x.D, regs) && s.a.Fits(x.A, regs) && s.b.Fits(x.B, regs) && x.Num >= s.least && x.Num <= s.most &&
		blocks.MayName(x.Name, s.named) && blocks.MayArgs(x.Args, s.args, regs)
}
