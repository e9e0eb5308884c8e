package walk

import (
	"brazier/api"
	"brazier/word"
)

// eval asks for an expression's value.
func (c *call) eval(e api.Expr) int32 {
	c.step()
	switch e.Kind {
	case api.ExNum:
		return e.Num
	case api.ExVar:
		return *c.word(e.Name)
	case api.ExIndex:
		return *c.element(e.Name, c.eval(e.Kids[0]))
	case api.ExCall:
		return c.callWith(e.Name, e.Kids)
	case api.ExRead:
		return c.read()
	case api.ExUn:
		return divided(word.Un(e.Op, c.eval(e.Kids[0])))
	case api.ExBin:
		return c.both(e)
	}
	return 0
}

// callWith calls a function with the arguments' values.
func (c *call) callWith(name string, args []api.Expr) int32 {
	var values []int32
	for _, e := range args {
		values = append(values, c.eval(e))
	}
	return c.call(name, values)
}

// both is an operator's of two. A second value that isn't asked for is 0: with the first one as it is, any would do.
func (c *call) both(e api.Expr) int32 {
	a, b := c.eval(e.Kids[0]), int32(0)
	if asks(e.Op, a) {
		b = c.eval(e.Kids[1])
	}
	return divided(word.Bin(e.Op, a, b))
}

// asks is whether an operator asks for its second value behind that first one.
func asks(op int, a int32) bool {
	switch op {
	case api.AndAnd:
		return a != 0
	case api.OrOr:
		return a == 0
	}
	return true
}

// divided is what was reckoned, if it could be.
func divided(n int32, ok bool) int32 {
	if !ok {
		panic(ending(api.EndDiv))
	}
	return n
}
