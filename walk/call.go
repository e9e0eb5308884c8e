package walk

import "brazier/api"

// A local is a name within a call, and its word.
type local struct {
	name string
	word int32
}

// A call is one that goes on.
type call struct {
	*walker
	locals []local // those of the scopes in which it stands, the innermost's last
	value  int32   // with which it is left
}

func (c *call) declare(name string, n int32) {
	c.locals = append(c.locals, local{name, n})
}

// word is the one that a name means: it is the innermost scope's that has the name, so it is sought from the last one on.
func (c *call) word(name string) *int32 {
	for i := len(c.locals) - 1; i >= 0; i-- {
		if c.locals[i].name == name {
			return &c.locals[i].word
		}
	}
	return &c.words[name][0]
}

// A leaving is what a statement leaves behind: where its call goes on.
type leaving int

const (
	goesOn    leaving = iota // with the next statement
	breaks                   // behind the innermost while
	continues                // with the innermost while's expression
	returns                  // nowhere: it is left
)

func (c *call) stmts(l []api.Stmt) leaving {
	for _, s := range l {
		if how := c.stmt(s); how != goesOn {
			return how
		}
	}
	return goesOn
}

// within does statements in a scope of their own, whose names are gone behind it.
func (c *call) within(l []api.Stmt) leaving {
	outer := len(c.locals)
	how := c.stmts(l)
	c.locals = c.locals[:outer]
	return how
}

func (c *call) stmt(s api.Stmt) leaving {
	c.step()
	switch s.Kind {
	case api.StVar:
		c.declare(s.Name, c.first(s.Exprs))
	case api.StSet:
		n := c.eval(s.Exprs[0])
		*c.word(s.Name) = n
	case api.StPut:
		index, n := c.eval(s.Exprs[0]), c.eval(s.Exprs[1])
		*c.element(s.Name, index) = n
	case api.StCall:
		c.callWith(s.Name, s.Exprs)
	case api.StIf:
		return c.choose(s)
	case api.StWhile:
		return c.loop(s)
	case api.StBreak:
		return breaks
	case api.StContinue:
		return continues
	case api.StReturn:
		c.value = c.eval(s.Exprs[0])
		return returns
	case api.StPrint:
		c.print(c.eval(s.Exprs[0]))
	case api.StBlock:
		return c.within(s.Kids)
	}
	return goesOn
}

// first is the first expression's value, or 0 where there is none.
func (c *call) first(l []api.Expr) int32 {
	if len(l) == 0 {
		return 0
	}
	return c.eval(l[0])
}

func (c *call) choose(s api.Stmt) leaving {
	if c.eval(s.Exprs[0]) != 0 {
		return c.within(s.Kids[:1])
	}
	return c.within(s.Kids[1:])
}

func (c *call) loop(s api.Stmt) leaving {
	for c.eval(s.Exprs[0]) != 0 {
		switch c.within(s.Kids) {
		case breaks:
			return goesOn
		case returns:
			return returns
		}
	}
	return goesOn
}
