package blocks

import (
	"brazier/api"
	"brazier/lexer"
)

// none is the number of a register that isn't there.
const none = -1

// Every is whether each of l may be.
func Every[T any](l []T, may func(T) bool) bool {
	for _, x := range l {
		if !may(x) {
			return false
		}
	}
	return true
}

// Within is whether n is from 0 to limit - 1.
func Within(n, limit int) bool { return n >= 0 && n < limit }

// A Need is whether an instruction has a register there.
type Need int

// The needs.
const (
	Never Need = iota
	Perhaps
	Always
)

// Fits is whether n is what an instruction of that need may have, of so many registers.
func (want Need) Fits(n, regs int) bool {
	return want != Never && Within(n, regs) || want != Always && n == none
}

// MayHead is whether a function may have that name, and so many parameters and registers.
func MayHead(name string, params, regs int) bool {
	return lexer.IsName(name) && Within(params, api.MaxParams+1) && regs >= params && regs <= api.MaxRegs
}

// MayName is whether an instruction may have that name, or none, if it isn't named.
func MayName(name string, named bool) bool {
	if named {
		return lexer.IsName(name)
	}
	return name == ""
}

// MayArgs is whether an instruction may have those arguments, of so many registers; or none, if it has none.
func MayArgs(args []int, has bool, regs int) bool {
	if !has {
		return len(args) == 0
	}
	return len(args) <= api.MaxParams && Every(args, func(n int) bool { return Within(n, regs) })
}
