package syntax

import (
	"brazier/api"
	"brazier/word"
)

// level is how strongly an operator of two binds: from 1 on; 0 of what is none.
func level(op int) int {
	switch op {
	case api.OrOr:
		return 1
	case api.AndAnd:
		return 2
	case api.Or:
		return 3
	case api.Xor:
		return 4
	case api.And:
		return 5
	case api.Eq, api.Ne:
		return 6
	case api.Lt, api.Le, api.Gt, api.Ge:
		return 7
	case api.Shl, api.Shr:
		return 8
	case api.Add, api.Sub:
		return 9
	case api.Mul, api.Div, api.Rem:
		return 10
	}
	return 0
}

// ofOne is whether op is an operator of one.
func ofOne(op int) bool { return op == api.Neg || op == api.Not || op == api.Inv }

// operator is the one with that sign, of two or of one, since a - is either; 0 if there is none.
func operator(sign string, sort func(op int) bool) int {
	for op := api.Add; op <= api.Inv; op++ {
		if sort(op) && word.Sign(op) == sign {
			return op
		}
	}
	return 0
}

func (p *parser) expression() api.Expr { return p.from(1) }

// from reads an expression whose operators outside of brackets bind at least so strongly.
func (p *parser) from(least int) api.Expr {
	left := p.operand()
	for {
		op := operator(p.head(), func(op int) bool { return level(op) >= least })
		if op == 0 {
			return left
		}
		p.take(word.Sign(op))
		right := p.from(level(op) + 1)
		left = api.Expr{Kind: api.ExBin, Op: op, Kids: []api.Expr{left, right}}
	}
}

// operand reads a primary, and the operators of one that stand ahead of it.
func (p *parser) operand() api.Expr {
	op := operator(p.head(), ofOne)
	if op == 0 {
		return p.primary()
	}
	p.take(word.Sign(op))
	return api.Expr{Kind: api.ExUn, Op: op, Kids: []api.Expr{p.operand()}}
}

func (p *parser) primary() api.Expr {
	switch {
	case p.next(api.TokNum):
		return api.Expr{Kind: api.ExNum, Num: p.one(api.TokNum).Num}
	case p.took("read"):
		p.take("(")
		p.take(")")
		return api.Expr{Kind: api.ExRead}
	case p.took("("):
		e := p.expression()
		p.take(")")
		return e
	}
	name := p.name()
	switch p.head() {
	case "[":
		return api.Expr{Kind: api.ExIndex, Name: name, Kids: []api.Expr{p.index()}}
	case "(":
		return api.Expr{Kind: api.ExCall, Name: name, Kids: p.arguments()}
	}
	return api.Expr{Kind: api.ExVar, Name: name}
}

func (p *parser) index() api.Expr {
	p.take("[")
	e := p.expression()
	p.take("]")
	return e
}

func (p *parser) arguments() []api.Expr {
	var out []api.Expr
	p.list(func() { out = append(out, p.expression()) })
	return out
}
