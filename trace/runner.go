package trace

import "brazier/api"

// none is the number of a register that isn't there.
const none = -1

// A call is one that goes on: what it does, with which registers, and how far it is.
type call struct {
	fn    *api.Fn
	regs  []int32
	block int // the number of the one that it is in
	done  int // how many of that block's instructions were begun
	d     int // the register of the call around it that is to have what it returns
}

// goOn goes on to a block.
func (c *call) goOn(block int) { c.block, c.done = block, 0 }

// A runner does what blocks do. Calls that are within one another are a list, so that however many there are, no call of the runner is within another.
type runner struct {
	fns   map[string]*api.Fn
	words map[string][]int32 // a global's: one, if it isn't an array
	input []int32
	fuel  int
	calls []*call    // the innermost last
	told  api.Result // what there is to tell of the run so far
}

// lay makes a program's functions and words ready.
func (r *runner) lay(m api.Mid) {
	r.fns = map[string]*api.Fn{}
	for i := range m.Fns {
		r.fns[m.Fns[i].Name] = &m.Fns[i]
	}
	r.words = map[string][]int32{}
	for _, g := range m.Globals {
		r.words[g.Name] = zeros(max(g.Size, 1), api.MaxWords)
	}
}

// zeros is n words. So many that no Mid that may be asks for them aren't made: the room might not be there.
func zeros(n, most int) []int32 {
	if n > most {
		panic("too many words")
	}
	return make([]int32, n)
}

// enter begins a call.
func (r *runner) enter(name string, d int, args []int32) {
	if len(r.calls) == api.MaxCalls {
		panic(ending(api.EndDeep))
	}
	fn := r.fns[name]
	c := &call{fn: fn, regs: zeros(fn.Regs, api.MaxRegs), d: d}
	copy(c.regs, args)
	r.calls = append(r.calls, c)
}

// leave ends the innermost call, and the run with main's own.
func (r *runner) leave(value int32) {
	last := len(r.calls) - 1
	d := r.calls[last].d
	r.calls = r.calls[:last]
	if last == 0 {
		r.told.Value = value
		panic(ending(api.EndDone))
	}
	if d >= 0 {
		r.calls[last-1].regs[d] = value
	}
}

// step does the innermost call's next instruction, or its block's end behind them all.
func (r *runner) step() {
	if r.told.Steps >= r.fuel {
		panic(ending(api.EndOpen))
	}
	r.told.Steps++
	c := r.calls[len(r.calls)-1]
	b := &c.fn.Blocks[c.block]
	if c.done == len(b.Ins) {
		r.end(c, b)
		return
	}
	c.done++
	r.do(c, &b.Ins[c.done-1])
}

func (r *runner) end(c *call, b *api.Block) {
	switch b.Kind {
	case api.BlJump:
		c.goOn(b.To)
	case api.BlBranch:
		if c.regs[b.A] != 0 {
			c.goOn(b.To)
		} else {
			c.goOn(b.Else)
		}
	case api.BlReturn:
		r.leave(c.regs[b.A])
	default:
		panic("no kind of end")
	}
}
