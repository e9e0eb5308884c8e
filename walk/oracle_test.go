package walk_test

import (
	"slices"

	"brazier/api"
)

// The chapter, said another way: each function is laid out as a row of doings with leaps between them, each local name as the number of its declaration; they are done one by one, with the values and the calls that are open on stacks.

type does int

const (
	doesStep does = iota
	doesPush
	doesDrop
	doesGet   // a local
	doesSet   // a local
	doesLoad  // a global's word, by the index that is the last value
	doesStore // by the index that is the last value but one
	doesLeap
	doesLeapIfNot
	doesTruth
	doesUn
	doesBin
	doesRead
	doesPrint
	doesCall
	doesReturn
)

// A doing is one; n is a number, an operator, a local, where to, or how many arguments.
type doing struct {
	does does
	n    int
	name string
}

// A laying lays a function out.
type laying struct {
	rows        []doing
	scopes      []map[string]int
	slots       int
	breaks      []int // leaps that go behind the innermost while
	continuesTo int
}

func (l *laying) do(d does, n int, name string) int {
	l.rows = append(l.rows, doing{d, n, name})
	return len(l.rows) - 1
}

// hereFrom lets a leap end here.
func (l *laying) hereFrom(leap int) { l.rows[leap].n = len(l.rows) }

func (l *laying) declare(name string) int {
	l.scopes[len(l.scopes)-1][name] = l.slots
	l.slots++
	return l.slots - 1
}

// slot is a local name's, or -1 for a global's.
func (l *laying) slot(name string) int {
	for _, s := range slices.Backward(l.scopes) {
		if n, there := s[name]; there {
			return n
		}
	}
	return -1
}

func laidOut(f api.Func) []doing {
	l := &laying{scopes: []map[string]int{{}}}
	for _, name := range f.Params {
		l.declare(name)
	}
	l.stmts(f.Body)
	l.do(doesPush, 0, "")
	l.do(doesReturn, 0, "")
	return l.rows
}

func (l *laying) scoped(list []api.Stmt) {
	l.scopes = append(l.scopes, map[string]int{})
	l.stmts(list)
	l.scopes = l.scopes[:len(l.scopes)-1]
}

func (l *laying) stmts(list []api.Stmt) {
	for _, s := range list {
		l.do(doesStep, 0, "")
		l.stmt(s)
	}
}

func (l *laying) stmt(s api.Stmt) {
	switch s.Kind {
	case api.StVar:
		if len(s.Exprs) == 0 {
			l.do(doesPush, 0, "")
		}
		l.exprs(s.Exprs)
		l.do(doesSet, l.declare(s.Name), "")
	case api.StSet:
		n := l.slot(s.Name)
		if n < 0 {
			l.do(doesPush, 0, "")
		}
		l.exprs(s.Exprs)
		if n < 0 {
			l.do(doesStore, 0, s.Name)
		} else {
			l.do(doesSet, n, "")
		}
	case api.StPut:
		l.exprs(s.Exprs)
		l.do(doesStore, 0, s.Name)
	case api.StCall:
		l.exprs(s.Exprs)
		l.do(doesCall, len(s.Exprs), s.Name)
		l.do(doesDrop, 0, "")
	case api.StReturn:
		l.exprs(s.Exprs)
		l.do(doesReturn, 0, "")
	case api.StPrint:
		l.exprs(s.Exprs)
		l.do(doesPrint, 0, "")
	default:
		l.leaping(s)
	}
}

func (l *laying) leaping(s api.Stmt) {
	switch s.Kind {
	case api.StIf:
		l.exprs(s.Exprs)
		other := l.do(doesLeapIfNot, 0, "")
		l.scoped(s.Kids[:1])
		behind := l.do(doesLeap, 0, "")
		l.hereFrom(other)
		l.scoped(s.Kids[1:])
		l.hereFrom(behind)
	case api.StWhile:
		breaks, to := l.breaks, l.continuesTo
		l.breaks, l.continuesTo = nil, len(l.rows)
		l.exprs(s.Exprs)
		l.breaks = append(l.breaks, l.do(doesLeapIfNot, 0, ""))
		l.scoped(s.Kids)
		l.do(doesLeap, l.continuesTo, "")
		for _, leap := range l.breaks {
			l.hereFrom(leap)
		}
		l.breaks, l.continuesTo = breaks, to
	case api.StBreak:
		l.breaks = append(l.breaks, l.do(doesLeap, 0, ""))
	case api.StContinue:
		l.do(doesLeap, l.continuesTo, "")
	case api.StBlock:
		l.scoped(s.Kids)
	}
}

func (l *laying) exprs(list []api.Expr) {
	for _, e := range list {
		l.do(doesStep, 0, "")
		l.expr(e)
	}
}

func (l *laying) expr(e api.Expr) {
	switch e.Kind {
	case api.ExNum:
		l.do(doesPush, int(e.Num), "")
	case api.ExVar:
		if n := l.slot(e.Name); n >= 0 {
			l.do(doesGet, n, "")
			return
		}
		l.do(doesPush, 0, "")
		l.do(doesLoad, 0, e.Name)
	case api.ExIndex:
		l.exprs(e.Kids)
		l.do(doesLoad, 0, e.Name)
	case api.ExCall:
		l.exprs(e.Kids)
		l.do(doesCall, len(e.Kids), e.Name)
	case api.ExRead:
		l.do(doesRead, 0, "")
	case api.ExUn:
		l.exprs(e.Kids)
		l.do(doesUn, e.Op, "")
	case api.ExBin:
		if e.Op == api.AndAnd || e.Op == api.OrOr {
			l.andOr(e)
			return
		}
		l.exprs(e.Kids)
		l.do(doesBin, e.Op, "")
	}
}

// andOr lays out: if (first) second's truth, else 0; and if (first) 1, else second's truth.
func (l *laying) andOr(e api.Expr) {
	l.exprs(e.Kids[:1])
	other := l.do(doesLeapIfNot, 0, "")
	side := func(second bool, n int) {
		if second {
			l.exprs(e.Kids[1:])
			l.do(doesTruth, 0, "")
		} else {
			l.do(doesPush, n, "")
		}
	}
	side(e.Op == api.AndAnd, 1)
	behind := l.do(doesLeap, 0, "")
	l.hereFrom(other)
	side(e.Op == api.OrOr, 0)
	l.hereFrom(behind)
}

// An open is a call that goes on.
type open struct {
	rows   []doing
	at     int
	locals map[int]int64
}

// A doer does rows.
type doer struct {
	funcs  map[string][]doing
	words  map[string][]int64
	values []int64
	calls  []*open
	input  []int32
	told   api.Result
}

// oracle is Run.
func oracle(p api.Prog, input []int32, fuel int) api.Result {
	d := &doer{funcs: map[string][]doing{}, words: map[string][]int64{}, input: slices.Clone(input)}
	for _, f := range p.Funcs {
		d.funcs[f.Name] = laidOut(f)
	}
	for _, g := range p.Globals {
		d.words[g.Name] = make([]int64, g.Size+1)
		if g.Size > 0 {
			d.words[g.Name] = d.words[g.Name][1:]
		}
	}
	d.call("main", 0)
	for d.told.End == 0 {
		c := d.calls[len(d.calls)-1]
		now := c.rows[c.at]
		c.at++
		if now.does == doesStep && d.told.Steps >= fuel {
			d.told.End = api.EndOpen
			break
		}
		d.do(c, now)
	}
	return d.told
}

func (d *doer) push(n int64) { d.values = append(d.values, int64(int32(n))) }

func (d *doer) pop() int64 {
	n := d.values[len(d.values)-1]
	d.values = d.values[:len(d.values)-1]
	return n
}

func (d *doer) call(name string, args int) {
	if len(d.calls) == 32 {
		d.told.End = api.EndDeep
		return
	}
	c := &open{rows: d.funcs[name], locals: map[int]int64{}}
	for i := args - 1; i >= 0; i-- {
		c.locals[i] = d.pop()
	}
	d.calls = append(d.calls, c)
}

func (d *doer) leave(n int64) {
	d.calls = d.calls[:len(d.calls)-1]
	if len(d.calls) == 0 {
		d.told.End, d.told.Value = api.EndDone, int32(n)
		return
	}
	d.push(n)
}

func (d *doer) do(c *open, now doing) {
	switch now.does {
	case doesStep:
		d.told.Steps++
	case doesPush:
		d.push(int64(now.n))
	case doesDrop:
		d.pop()
	case doesGet:
		d.push(c.locals[now.n])
	case doesSet:
		c.locals[now.n] = d.pop()
	case doesLeap:
		c.at = now.n
	case doesLeapIfNot:
		if d.pop() == 0 {
			c.at = now.n
		}
	case doesCall:
		d.call(now.name, now.n)
	case doesReturn:
		d.leave(d.pop())
	case doesRead:
		d.push(0)
		if len(d.input) > 0 {
			d.pop()
			d.push(int64(d.input[0]))
			d.input = d.input[1:]
			d.told.Reads++
		}
	case doesPrint:
		d.told.Trace = append(d.told.Trace, int32(d.pop()))
	default:
		d.reckon(now)
	}
}

func (d *doer) reckon(now doing) {
	last := d.pop()
	switch now.does {
	case doesTruth:
		d.push(truth(last != 0))
	case doesUn:
		d.push(map[int]int64{api.Neg: -last, api.Not: truth(last == 0), api.Inv: -1 - last}[now.n])
	case doesLoad:
		if w := d.words[now.name]; last >= 0 && last < int64(len(w)) {
			d.push(w[last])
			return
		}
		d.told.End = api.EndIndex
	case doesStore:
		index := d.pop()
		if w := d.words[now.name]; index >= 0 && index < int64(len(w)) {
			w[index] = last
			return
		}
		d.told.End = api.EndIndex
	case doesBin:
		first := d.pop()
		if last == 0 && (now.n == api.Div || now.n == api.Rem) {
			d.told.End = api.EndDiv
			return
		}
		d.push(bin(now.n, first, last))
	}
}

func truth(is bool) int64 {
	if is {
		return 1
	}
	return 0
}

// bin is what comes of an operator of two, ahead of its going round.
func bin(op int, a, b int64) int64 {
	switch op {
	case api.Add:
		return a + b
	case api.Sub:
		return a - b
	case api.Mul:
		return a * b
	case api.Div:
		return a / b
	case api.Rem:
		return a % b
	case api.Shl:
		return a << (b & 31)
	case api.Shr:
		return a >> (b & 31)
	case api.And:
		return a & b
	case api.Or:
		return a | b
	case api.Xor:
		return a ^ b
	}
	return truth(map[int]bool{api.Lt: a < b, api.Le: a <= b, api.Gt: a > b, api.Ge: a >= b, api.Eq: a == b, api.Ne: a != b}[op])
}
