package syntax

import "brazier/api"

// block reads statements in curly brackets.
func (p *parser) block() []api.Stmt {
	var out []api.Stmt
	p.take("{")
	for p.head() != "}" {
		out = append(out, p.statement())
	}
	p.take("}")
	return out
}

func (p *parser) statement() api.Stmt {
	switch p.head() {
	case "{":
		return api.Stmt{Kind: api.StBlock, Kids: p.block()}
	case "if":
		return p.branch()
	case "while":
		return p.loop()
	}
	s := p.line()
	p.take(";")
	return s
}

// branch reads an if: an else that stands behind its first kid is its own, so it goes to the nearest.
func (p *parser) branch() api.Stmt {
	p.take("if")
	s := api.Stmt{Kind: api.StIf, Exprs: p.condition()}
	s.Kids = append(s.Kids, p.statement())
	if p.took("else") {
		s.Kids = append(s.Kids, p.statement())
	}
	return s
}

func (p *parser) loop() api.Stmt {
	p.take("while")
	s := api.Stmt{Kind: api.StWhile, Exprs: p.condition()}
	s.Kids = append(s.Kids, p.statement())
	return s
}

func (p *parser) condition() []api.Expr {
	p.take("(")
	e := p.expression()
	p.take(")")
	return []api.Expr{e}
}

// line reads a statement that ends with a semicolon, up to that.
func (p *parser) line() api.Stmt {
	switch {
	case p.head() == ";":
		return api.Stmt{Kind: api.StBlock}
	case p.took("int"):
		return p.variable()
	case p.took("break"):
		return api.Stmt{Kind: api.StBreak}
	case p.took("continue"):
		return api.Stmt{Kind: api.StContinue}
	case p.took("return"):
		return api.Stmt{Kind: api.StReturn, Exprs: []api.Expr{p.expression()}}
	case p.took("print"):
		return api.Stmt{Kind: api.StPrint, Exprs: []api.Expr{p.expression()}}
	}
	return p.named()
}

// variable reads what stands behind a StVar's int.
func (p *parser) variable() api.Stmt {
	s := api.Stmt{Kind: api.StVar, Name: p.name()}
	if p.head() == "=" {
		s.Exprs = append(s.Exprs, p.value())
	}
	return s
}

// named reads a statement that begins with a name.
func (p *parser) named() api.Stmt {
	name := p.name()
	switch p.head() {
	case "(":
		return api.Stmt{Kind: api.StCall, Name: name, Exprs: p.arguments()}
	case "[":
		index := p.index()
		return api.Stmt{Kind: api.StPut, Name: name, Exprs: []api.Expr{index, p.value()}}
	}
	return api.Stmt{Kind: api.StSet, Name: name, Exprs: []api.Expr{p.value()}}
}

// value reads what is assigned.
func (p *parser) value() api.Expr {
	p.take("=")
	return p.expression()
}
