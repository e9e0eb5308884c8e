package sample

import (
	"strings"

	"brazier/api"
	"brazier/word"
)

// A writer writes a tree's tokens by the grammar of chapter 8 alone: brackets stand where they must, and here and there where they may.
type writer struct {
	*Maker
	tokens []string
}

// Text is a program's text, written in any way that the grammar has, with any blanks and comments.
func (m *Maker) Text(p api.Prog) string {
	w := &writer{Maker: m}
	w.prog(p)
	return w.text()
}

func (w *writer) put(tokens ...string) { w.tokens = append(w.tokens, tokens...) }

// sep does so for each of n, with a comma between two, in ( ).
func (w *writer) sep(n int, do func(i int)) {
	w.put("(")
	for i := range n {
		if i > 0 {
			w.put(",")
		}
		do(i)
	}
	w.put(")")
}

// How strongly what isn't an operator of two binds.
const levelOne, levelPrimary = 11, 12

func levelOf(e api.Expr) int {
	switch e.Kind {
	case api.ExUn:
		return levelOne
	case api.ExBin:
		return [...]int{api.OrOr: 1, api.AndAnd: 2, api.Or: 3, api.Xor: 4, api.And: 5, api.Eq: 6, api.Ne: 6, api.Lt: 7, api.Le: 7, api.Gt: 7, api.Ge: 7, api.Shl: 8, api.Shr: 8, api.Add: 9, api.Sub: 9, api.Mul: 10, api.Div: 10, api.Rem: 10}[e.Op]
	}
	return levelPrimary
}

// expr writes an expression where nothing may stand that binds less.
func (w *writer) expr(e api.Expr, least int) {
	if levelOf(e) < least || w.pick(12) == 0 {
		w.put("(")
		w.expr(e, 0)
		w.put(")")
		return
	}
	switch e.Kind {
	case api.ExNum:
		w.put(word.Dec(e.Num))
	case api.ExVar:
		w.put(e.Name)
	case api.ExIndex:
		w.put(e.Name, "[")
		w.expr(e.Kids[0], 0)
		w.put("]")
	case api.ExCall:
		w.put(e.Name)
		w.sep(len(e.Kids), func(i int) { w.expr(e.Kids[i], 0) })
	case api.ExRead:
		w.put("read", "(", ")")
	case api.ExUn:
		w.put(word.Sign(e.Op))
		w.expr(e.Kids[0], levelOne)
	case api.ExBin:
		w.expr(e.Kids[0], levelOf(e))
		w.put(word.Sign(e.Op))
		w.expr(e.Kids[1], levelOf(e)+1)
	}
}

func (w *writer) stmt(s api.Stmt) {
	switch s.Kind {
	case api.StIf:
		w.put("if")
		w.kids(s)
	case api.StWhile:
		w.put("while")
		w.kids(s)
	case api.StBlock:
		if len(s.Kids) > 0 || w.pick(2) == 0 {
			w.block(s.Kids)
		} else {
			w.put(";")
		}
	default:
		w.line(s)
		w.put(";")
	}
}

// kids writes what stands behind an if or a while.
func (w *writer) kids(s api.Stmt) {
	w.sep(1, func(i int) { w.expr(s.Exprs[i], 0) })
	w.stmt(s.Kids[0])
	if len(s.Kids) > 1 {
		w.put("else")
		w.stmt(s.Kids[1])
	}
}

// line writes a statement that has no kids, up to its semicolon.
func (w *writer) line(s api.Stmt) {
	e := func(i int) { w.expr(s.Exprs[i], 0) }
	switch s.Kind {
	case api.StVar:
		w.put("int", s.Name)
		if len(s.Exprs) > 0 {
			w.put("=")
			e(0)
		}
	case api.StSet:
		w.put(s.Name, "=")
		e(0)
	case api.StPut:
		w.put(s.Name, "[")
		e(0)
		w.put("]", "=")
		e(1)
	case api.StCall:
		w.put(s.Name)
		w.sep(len(s.Exprs), e)
	case api.StBreak:
		w.put("break")
	case api.StContinue:
		w.put("continue")
	case api.StReturn:
		w.put("return")
		e(0)
	case api.StPrint:
		w.put("print")
		e(0)
	}
}

func (w *writer) block(l []api.Stmt) {
	w.put("{")
	for _, s := range l {
		w.stmt(s)
	}
	w.put("}")
}

// prog writes globals and functions, in any order of the ones among the others.
func (w *writer) prog(p api.Prog) {
	for len(p.Globals)+len(p.Funcs) > 0 {
		if len(p.Funcs) == 0 || len(p.Globals) > 0 && w.pick(2) == 0 {
			g := p.Globals[0]
			w.put("int", g.Name)
			if g.Size > 0 {
				w.put("[", word.Dec(int32(g.Size)), "]")
			}
			w.put(";")
			p.Globals = p.Globals[1:]
			continue
		}
		f := p.Funcs[0]
		w.put("int", f.Name)
		w.sep(len(f.Params), func(i int) { w.put("int", f.Params[i]) })
		w.block(f.Body)
		p.Funcs = p.Funcs[1:]
	}
}

// text is the tokens with something between: nothing, here and there, where one of two is a bracket, a comma or a semicolon.
func (w *writer) text() string {
	var b strings.Builder
	for i, token := range w.tokens {
		tight := i == 0 || strings.Contains("()[]{},;", token) || strings.Contains("()[]{},;", w.tokens[i-1])
		if !tight || w.pick(3) > 0 {
			b.WriteString(one(w.Maker, " ", "\n", "\t ", " /* } */ ", " // {\n", "\r\n"))
		}
		b.WriteString(token)
	}
	return b.String()
}

// Spoilt is a text with a piece put in, a byte left out, or a piece in a byte's place.
func (m *Maker) Spoilt(s string, pieces ...string) string {
	at, piece := m.pick(len(s)+1), one(m, pieces...)
	switch m.pick(3) {
	case 0:
		return s[:at] + piece + s[at:]
	case 1:
		return s[:at] + s[min(at+1, len(s)):]
	}
	return s[:at] + piece + s[min(at+1, len(s)):]
}
