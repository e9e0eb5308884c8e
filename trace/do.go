package trace

import (
	"brazier/api"
	"brazier/word"
)

// do does an instruction.
func (r *runner) do(c *call, x *api.Ins) {
	switch x.Kind {
	case api.InNum:
		c.regs[x.D] = x.Num
	case api.InCopy:
		c.regs[x.D] = c.regs[x.A]
	case api.InUn:
		c.regs[x.D] = divided(word.Un(x.Op, c.regs[x.A]))
	case api.InBin:
		c.regs[x.D] = divided(word.Bin(x.Op, c.regs[x.A], c.regs[x.B]))
	case api.InLoad:
		c.regs[x.D] = *r.element(c, x)
	case api.InStore:
		*r.element(c, x) = c.regs[x.B]
	case api.InCall:
		r.enter(x.Name, x.D, c.values(x.Args))
	case api.InRead:
		c.regs[x.D] = r.read()
	case api.InPrint:
		r.told.Trace = append(r.told.Trace, c.regs[x.A])
	}
}

// values is what registers hold.
func (c *call) values(regs []int) []int32 {
	var out []int32
	for _, n := range regs {
		out = append(out, c.regs[n])
	}
	return out
}

// element is a global's word, of an array the one of the index A.
func (r *runner) element(c *call, x *api.Ins) *int32 {
	index := int32(0)
	if x.A >= 0 {
		index = c.regs[x.A]
	}
	words := r.words[x.Name]
	if index < 0 || int(index) >= len(words) {
		panic(ending(api.EndIndex))
	}
	return &words[index]
}

// read is the next word of the input: behind the last one there is always a 0 to be had.
func (r *runner) read() int32 {
	at := r.told.Reads
	if at == len(r.input) {
		return 0
	}
	r.told.Reads++
	return r.input[at]
}

// divided is what was reckoned, if it could be.
func divided(n int32, ok bool) int32 {
	if !ok {
		panic(ending(api.EndDiv))
	}
	return n
}
