package flow

import (
	"brazier/api"
	"brazier/blocks"
	"brazier/lexer"
	"brazier/word"
)

// MayFn: P11.1.
func MayFn(f api.Fn) bool {
	if !blocks.MayHead(f.Name, f.Params, f.Regs) || len(f.Blocks) == 0 {
		return false
	}
	ins := func(x api.Ins) bool { return mayIns(x, f.Regs) }
	return blocks.Every(f.Blocks, func(b api.Block) bool { return blocks.Every(b.Ins, ins) && mayEnd(b, f) })
}

func mayEnd(b api.Block, f api.Fn) bool {
	reg, to, other := blocks.Within(b.A, f.Regs), blocks.Within(b.To, len(f.Blocks)), blocks.Within(b.Else, len(f.Blocks))
	switch b.Kind {
	case api.BlJump:
		return b.A == 0 && to && b.Else == 0
	case api.BlBranch:
		return reg && to && other
	case api.BlReturn:
		return reg && b.To == 0 && b.Else == 0
	}
	return false
}

// A shape is what a kind of instruction has.
type shape struct {
	d, a, b          blocks.Need
	values           int // how many its operator is one of: 0 without
	num, named, args bool
}

// shapeOf is false of kinds that aren't known.
func shapeOf(kind int) (shape, bool) {
	switch kind {
	case api.InNum:
		return shape{d: blocks.Always, num: true}, true
	case api.InCopy:
		return shape{d: blocks.Always, a: blocks.Always}, true
	case api.InUn:
		return shape{d: blocks.Always, a: blocks.Always, values: 1}, true
	case api.InBin:
		return shape{d: blocks.Always, a: blocks.Always, b: blocks.Always, values: 2}, true
	case api.InLoad:
		return shape{d: blocks.Always, a: blocks.Perhaps, named: true}, true
	case api.InStore:
		return shape{a: blocks.Perhaps, b: blocks.Always, named: true}, true
	case api.InCall:
		return shape{d: blocks.Perhaps, named: true, args: true}, true
	case api.InRead:
		return shape{d: blocks.Always}, true
	case api.InPrint:
		return shape{a: blocks.Always}, true
	}
	return shape{}, false
}

// mayIns is whether x has just what its kind has, of so many registers.
func mayIns(x api.Ins, regs int) bool {
	s, known := shapeOf(x.Kind)
	return known && s.d.Fits(x.D, regs) && s.a.Fits(x.A, regs) && s.b.Fits(x.B, regs) &&
		mayOp(x.Op, s.values) && (s.num || x.Num == 0) && blocks.MayName(x.Name, s.named) && blocks.MayArgs(x.Args, s.args, regs)
}

// mayOp goes by what layer 1 reckons with, but for && and ||, which are ways in blocks.
func mayOp(op, values int) bool {
	switch values {
	case 1:
		_, known := word.Un(op, 1)
		return known
	case 2:
		_, known := word.Bin(op, 1, 1)
		return known && op != api.AndAnd && op != api.OrOr
	}
	return op == 0
}

// A meaning is what a name of a program stands for: none of those, if it is zero.
type meaning struct {
	role   role
	params int // a function's
}

type role int

const (
	aWord role = iota + 1
	anArray
	aFunction
)

// meanings is what a program's names stand for.
type meanings map[string]meaning

// add is false, if the name is there already.
func (l meanings) add(name string, is meaning) bool {
	if l[name] != (meaning{}) {
		return false
	}
	l[name] = is
	return true
}

func (l meanings) addGlobal(g api.Global) bool {
	is := meaning{role: anArray}
	if g.Size == 0 {
		is.role = aWord
	}
	return lexer.IsName(g.Name) && g.Size >= 0 && g.Size <= api.MaxWords && l.add(g.Name, is)
}

func (l meanings) addFn(f api.Fn) bool {
	return MayFn(f) && l.add(f.Name, meaning{aFunction, f.Params})
}

// goesWith is whether the name of an instruction stands for what its kind asks, if it has one.
func (l meanings) goesWith(x api.Ins) bool {
	switch {
	case x.Kind == api.InCall:
		return l[x.Name] == meaning{aFunction, len(x.Args)}
	case x.Name == "":
		return true
	case x.A == none:
		return l[x.Name] == meaning{role: aWord}
	}
	return l[x.Name] == meaning{role: anArray}
}

// May: P11.2.
func May(m api.Mid) bool {
	own := meanings{}
	if len(m.Globals) > api.MaxGlobals || !blocks.Every(m.Globals, own.addGlobal) || words(m.Globals) > api.MaxData || !blocks.Every(m.Fns, own.addFn) {
		return false
	}
	if own["main"] != (meaning{role: aFunction}) {
		return false
	}
	return blocks.Every(m.Fns, func(f api.Fn) bool {
		return blocks.Every(f.Blocks, func(b api.Block) bool { return blocks.Every(b.Ins, own.goesWith) })
	})
}

// words is how many globals have.
func words(globals []api.Global) int {
	sum := 0
	for _, g := range globals {
		sum += max(g.Size, 1)
	}
	return sum
}
