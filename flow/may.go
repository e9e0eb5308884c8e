package flow

import (
	"brazier/api"
	"brazier/lexer"
	"brazier/word"
)

// all is whether each of l may be.
func all[T any](l []T, may func(T) bool) bool {
	for _, x := range l {
		if !may(x) {
			return false
		}
	}
	return true
}

// within is whether n is from 0 to limit - 1.
func within(n, limit int) bool { return n >= 0 && n < limit }

// MayFn: P11.1.
func MayFn(f api.Fn) bool {
	if !lexer.IsName(f.Name) || f.Params < 0 || f.Params > api.MaxParams || f.Regs < f.Params || f.Regs > api.MaxRegs || len(f.Blocks) == 0 {
		return false
	}
	ins := func(x api.Ins) bool { return mayIns(x, f.Regs) }
	return all(f.Blocks, func(b api.Block) bool { return all(b.Ins, ins) && mayEnd(b, f) })
}

func mayEnd(b api.Block, f api.Fn) bool {
	reg, to, other := within(b.A, f.Regs), within(b.To, len(f.Blocks)), within(b.Else, len(f.Blocks))
	switch b.Kind {
	case api.BlJump:
		return b.A == 0 && to && b.Else == 0
	case api.BlBranch:
		return reg && to && other
	case api.BlReturn:
		return reg && b.To == 0 && b.Else == 0
	}
	return false
}

// A need is whether a kind of instruction has a register there.
type need int

const (
	never need = iota
	perhaps
	always
)

// fits is whether n is what a kind of that need may have, of so many registers.
func (want need) fits(n, regs int) bool {
	return want != never && within(n, regs) || want != always && n == none
}

// A shape is what a kind of instruction has.
type shape struct {
	d, a, b          need
	values           int // how many its operator is one of: 0 without
	num, named, args bool
}

// shapeOf is false of kinds that aren't known.
func shapeOf(kind int) (shape, bool) {
	switch kind {
	case api.InNum:
		return shape{d: always, num: true}, true
	case api.InCopy:
		return shape{d: always, a: always}, true
	case api.InUn:
		return shape{d: always, a: always, values: 1}, true
	case api.InBin:
		return shape{d: always, a: always, b: always, values: 2}, true
	case api.InLoad:
		return shape{d: always, a: perhaps, named: true}, true
	case api.InStore:
		return shape{a: perhaps, b: always, named: true}, true
	case api.InCall:
		return shape{d: perhaps, named: true, args: true}, true
	case api.InRead:
		return shape{d: always}, true
	case api.InPrint:
		return shape{a: always}, true
	}
	return shape{}, false
}

// mayIns is whether x has just what its kind has, of so many registers.
func mayIns(x api.Ins, regs int) bool {
	s, known := shapeOf(x.Kind)
	return known && s.d.fits(x.D, regs) && s.a.fits(x.A, regs) && s.b.fits(x.B, regs) &&
		mayOp(x.Op, s.values) && (s.num || x.Num == 0) && mayName(x.Name, s.named) && mayArgs(x.Args, s.args, regs)
}

// mayOp goes by what layer 1 reckons with, but for && and ||, which are ways in blocks.
func mayOp(op, values int) bool {
	switch values {
	case 1:
		_, known := word.Un(op, 1)
		return known
	case 2:
		_, known := word.Bin(op, 1, 1)
		return known && op != api.AndAnd && op != api.OrOr
	}
	return op == 0
}

func mayName(name string, named bool) bool {
	if named {
		return lexer.IsName(name)
	}
	return name == ""
}

func mayArgs(args []int, has bool, regs int) bool {
	if !has {
		return len(args) == 0
	}
	return len(args) <= api.MaxParams && all(args, func(n int) bool { return within(n, regs) })
}

// A meaning is what a name of a program stands for: none of those, if it is zero.
type meaning struct {
	role   role
	params int // a function's
}

type role int

const (
	aWord role = iota + 1
	anArray
	aFunction
)

// meanings is what a program's names stand for.
type meanings map[string]meaning

// add is false, if the name is there already.
func (l meanings) add(name string, is meaning) bool {
	if l[name] != (meaning{}) {
		return false
	}
	l[name] = is
	return true
}

func (l meanings) addGlobal(g api.Global) bool {
	is := meaning{role: anArray}
	if g.Size == 0 {
		is.role = aWord
	}
	return lexer.IsName(g.Name) && g.Size >= 0 && g.Size <= api.MaxWords && l.add(g.Name, is)
}

func (l meanings) addFn(f api.Fn) bool {
	return MayFn(f) && l.add(f.Name, meaning{aFunction, f.Params})
}

// goesWith is whether the name of an instruction stands for what its kind asks, if it has one.
func (l meanings) goesWith(x api.Ins) bool {
	switch {
	case x.Kind == api.InCall:
		return l[x.Name] == meaning{aFunction, len(x.Args)}
	case x.Name == "":
		return true
	case x.A == none:
		return l[x.Name] == meaning{role: aWord}
	}
	return l[x.Name] == meaning{role: anArray}
}

// May: P11.2.
func May(m api.Mid) bool {
	own := meanings{}
	if len(m.Globals) > api.MaxGlobals || !all(m.Globals, own.addGlobal) || words(m.Globals) > api.MaxData || !all(m.Fns, own.addFn) {
		return false
	}
	if own["main"] != (meaning{role: aFunction}) {
		return false
	}
	return all(m.Fns, func(f api.Fn) bool {
		return all(f.Blocks, func(b api.Block) bool { return all(b.Ins, own.goesWith) })
	})
}

// words is how many globals have.
func words(globals []api.Global) int {
	sum := 0
	for _, g := range globals {
		sum += max(g.Size, 1)
	}
	return sum
}
