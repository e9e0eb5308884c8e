package trace_test

import (
	"brazier/api"
)

// The chapter, said another way: a call of the program is a call of the oracle, registers and words stand in rows of their own kind, and how a run ends goes from call to call.

type oracle struct {
	m     api.Mid
	words map[string]map[int64]int64
	input []int32
	fuel  int
	told  api.Result
}

// run is Run.
func run(m api.Mid, input []int32, fuel int) api.Result {
	o := &oracle{m: m, words: map[string]map[int64]int64{}, input: input, fuel: fuel}
	for _, g := range m.Globals {
		o.words[g.Name] = map[int64]int64{0: 0}
		for i := range g.Size {
			o.words[g.Name][int64(i)] = 0
		}
	}
	value, end := o.call("main", 1, nil)
	o.told.End = end
	if end == api.EndDone {
		o.told.Value = int32(value)
	}
	return o.told
}

// step is whether there is one more.
func (o *oracle) step() bool {
	if o.fuel <= 0 {
		return false
	}
	o.fuel--
	o.told.Steps++
	return true
}

// call answers what is returned, and EndDone; or how the run ends.
func (o *oracle) call(name string, depth int, args []int64) (int64, int) {
	if depth > 32 {
		return 0, api.EndDeep
	}
	var f api.Fn
	for _, g := range o.m.Fns {
		if g.Name == name {
			f = g
		}
	}
	regs := map[int]int64{}
	for i, n := range args {
		regs[i] = n
	}
	b := f.Blocks[0]
	for {
		for _, x := range b.Ins {
			if !o.step() {
				return 0, api.EndOpen
			}
			if end := o.do(x, regs, depth); end != 0 {
				return 0, end
			}
		}
		if !o.step() {
			return 0, api.EndOpen
		}
		if b.Kind == api.BlReturn {
			return regs[b.A], api.EndDone
		}
		to := b.To
		if b.Kind == api.BlBranch && regs[b.A] == 0 {
			to = b.Else
		}
		b = f.Blocks[to]
	}
}

// do answers how the run ends, 0 if it goes on.
func (o *oracle) do(x api.Ins, regs map[int]int64, depth int) int {
	a, b := regs[x.A], regs[x.B]
	set := func(n int64) {
		regs[x.D] = int64(int32(n))
	}
	if (x.Kind == api.InLoad || x.Kind == api.InStore) && x.A == -1 {
		a = 0
	}
	if _, there := o.words[x.Name][a]; !there && (x.Kind == api.InLoad || x.Kind == api.InStore) {
		return api.EndIndex
	}
	switch x.Kind {
	case api.InNum:
		set(int64(x.Num))
	case api.InCopy:
		set(a)
	case api.InUn:
		set(map[int]int64{api.Neg: -a, api.Not: truth(a == 0), api.Inv: -1 - a}[x.Op])
	case api.InBin:
		if b == 0 && (x.Op == api.Div || x.Op == api.Rem) {
			return api.EndDiv
		}
		set(bin(x.Op, a, b))
	case api.InLoad:
		set(o.words[x.Name][a])
	case api.InStore:
		o.words[x.Name][a] = b
	case api.InPrint:
		o.told.Trace = append(o.told.Trace, int32(a))
	case api.InRead:
		set(0)
		if n := o.told.Reads; n < len(o.input) {
			set(int64(o.input[n]))
			o.told.Reads++
		}
	case api.InCall:
		var args []int64
		for _, n := range x.Args {
			args = append(args, regs[n])
		}
		value, end := o.call(x.Name, depth+1, args)
		if end != api.EndDone {
			return end
		}
		if x.D != -1 {
			set(value)
		}
	}
	return 0
}

func truth(is bool) int64 {
	if is {
		return 1
	}
	return 0
}

// bin is what comes of an operator of two, ahead of its going round.
func bin(op int, a, b int64) int64 {
	switch op {
	case api.Add:
		return a + b
	case api.Sub:
		return a - b
	case api.Mul:
		return a * b
	case api.Div:
		return a / b
	case api.Rem:
		return a % b
	case api.Shl:
		return a << (b & 31)
	case api.Shr:
		return a >> (b & 31)
	case api.And:
		return a & b
	case api.Or:
		return a | b
	case api.Xor:
		return a ^ b
	}
	return truth(map[int]bool{api.Lt: a < b, api.Le: a <= b, api.Gt: a > b, api.Ge: a >= b, api.Eq: a == b, api.Ne: a != b}[op])
}
