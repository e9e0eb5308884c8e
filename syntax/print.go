package syntax

import (
	"strings"

	"brazier/api"
	"brazier/word"
)

// Print: P8.5.
func Print(p api.Prog) string {
	var out strings.Builder
	for _, g := range p.Globals {
		out.WriteString(PrintGlobal(g))
	}
	for _, f := range p.Funcs {
		out.WriteString(PrintFunc(f))
	}
	return out.String()
}

// PrintGlobal: P8.5.
func PrintGlobal(g api.Global) string {
	if g.Size == 0 {
		return "int " + g.Name + ";\n"
	}
	return "int " + g.Name + "[" + word.Dec(int32(g.Size)) + "];\n"
}

// Signature: P8.6.
func Signature(f api.Func) string {
	return "int " + f.Name + listed(f.Params, func(string) string { return "int" })
}

// listed is the texts of all of them in ( ), a comma and a blank between two.
func listed[T any](l []T, text func(T) string) string {
	var texts []string
	for _, x := range l {
		texts = append(texts, text(x))
	}
	return "(" + strings.Join(texts, ", ") + ")"
}

// PrintFunc: P8.5.
func PrintFunc(f api.Func) string {
	var out strings.Builder
	line := func(text string, tabs int) {
		for range tabs {
			out.WriteByte('\t')
		}
		out.WriteString(text)
		out.WriteByte('\n')
	}
	var lines func(l []api.Stmt, tabs int)
	lines = func(l []api.Stmt, tabs int) {
		for _, s := range l {
			line(head(s), tabs)
			switch s.Kind {
			case api.StBlock:
				lines(s.Kids, tabs+1)
				line("}", tabs)
			case api.StWhile:
				lines(first(s.Kids, 1), tabs+1)
			case api.StIf:
				lines(first(s.Kids, 1), tabs+1)
				if len(s.Kids) > 1 {
					line("else", tabs)
					lines(s.Kids[1:2], tabs+1)
				}
			}
		}
	}
	line("int "+f.Name+listed(f.Params, func(name string) string { return "int " + name })+" {", 0)
	lines(f.Body, 1)
	line("}", 0)
	return out.String()
}

// first is the first n, as far as they are there.
func first[T any](l []T, n int) []T { return l[:min(n, len(l))] }

// head is what a statement's own line says.
func head(s api.Stmt) string {
	expr := func(i int) string {
		if i < len(s.Exprs) {
			return PrintExpr(s.Exprs[i])
		}
		return ""
	}
	switch s.Kind {
	case api.StVar:
		if len(s.Exprs) == 0 {
			return "int " + s.Name + ";"
		}
		return "int " + s.Name + " = " + expr(0) + ";"
	case api.StSet:
		return s.Name + " = " + expr(0) + ";"
	case api.StPut:
		return s.Name + "[" + expr(0) + "] = " + expr(1) + ";"
	case api.StCall:
		return s.Name + listed(s.Exprs, PrintExpr) + ";"
	case api.StIf:
		return "if (" + expr(0) + ")"
	case api.StWhile:
		return "while (" + expr(0) + ")"
	case api.StBreak:
		return "break;"
	case api.StContinue:
		return "continue;"
	case api.StReturn:
		return "return " + expr(0) + ";"
	case api.StPrint:
		return "print " + expr(0) + ";"
	case api.StBlock:
		return "{"
	}
	return ""
}

// PrintExpr: P8.5.
func PrintExpr(e api.Expr) string {
	var out strings.Builder
	var write func(e api.Expr)
	kid := func(k api.Expr, brackets bool) {
		if brackets {
			out.WriteByte('(')
		}
		write(k)
		if brackets {
			out.WriteByte(')')
		}
	}
	write = func(e api.Expr) {
		f := frameOf(e)
		out.WriteString(f.ahead)
		for i := range f.kids {
			if i > 0 {
				out.WriteString(f.between)
			}
			if i < len(e.Kids) {
				kid(e.Kids[i], operates(e) && operates(e.Kids[i]))
			}
		}
		out.WriteString(f.behind)
	}
	write(e)
	return out.String()
}

// operates is whether e is an operator's, of one or two.
func operates(e api.Expr) bool { return e.Kind == api.ExUn || e.Kind == api.ExBin }

// A frame is what an expression says ahead of its kids, between two of them, and behind them, and how many of them it has.
type frame struct {
	ahead, between, behind string
	kids                   int
}

func frameOf(e api.Expr) frame {
	switch e.Kind {
	case api.ExNum:
		return frame{ahead: word.Dec(e.Num)}
	case api.ExVar:
		return frame{ahead: e.Name}
	case api.ExIndex:
		return frame{ahead: e.Name + "[", behind: "]", kids: 1}
	case api.ExCall:
		return frame{ahead: e.Name + "(", between: ", ", behind: ")", kids: len(e.Kids)}
	case api.ExRead:
		return frame{ahead: "read()"}
	case api.ExUn:
		return frame{ahead: word.Sign(e.Op), kids: 1}
	case api.ExBin:
		return frame{between: " " + word.Sign(e.Op) + " ", kids: 2}
	}
	return frame{}
}
