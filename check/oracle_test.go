package check_test

import (
	"slices"

	"brazier/api"
)

// The chapter, said another way: a function is laid out as a row of sayings, each with the scopes around it; what a name is is sought among the sayings ahead of it.

type sort int

const (
	saysWord sort = iota
	saysArray
	saysCall
	saysNew  // a parameter or a StVar
	saysJump // break or continue
)

// A saying is what stands somewhere in a function.
type saying struct {
	sort   sort
	name   string
	args   int
	path   []int // the scopes around it, the outermost first
	loops  int
	turned *string // where the name stands
}

// A layer lays a function out.
type layer struct {
	says   []saying
	scopes int // numbered so far
}

func laid(f *api.Func) []saying {
	l := &layer{scopes: 1}
	for i := range f.Params {
		l.say(saying{sort: saysNew, name: f.Params[i], turned: &f.Params[i]}, []int{0}, 0)
	}
	l.stmts(f.Body, []int{0}, 0)
	return l.says
}

func (l *layer) say(s saying, path []int, loops int) {
	s.path, s.loops = slices.Clone(path), loops
	l.says = append(l.says, s)
}

// own is a path with a new scope behind it.
func (l *layer) own(path []int) []int {
	l.scopes++
	return append(slices.Clone(path), l.scopes)
}

func (l *layer) stmts(list []api.Stmt, path []int, loops int) {
	for i := range list {
		s := &list[i]
		n := len(s.Exprs)
		switch s.Kind {
		case api.StVar:
			l.exprs(s.Exprs, path, loops)
			l.say(saying{sort: saysNew, name: s.Name, turned: &s.Name}, path, loops)
		case api.StSet:
			l.say(saying{sort: saysWord, name: s.Name, turned: &s.Name}, path, loops)
			l.exprs(s.Exprs, path, loops)
		case api.StPut:
			l.say(saying{sort: saysArray, name: s.Name, turned: &s.Name}, path, loops)
			l.exprs(s.Exprs, path, loops)
		case api.StCall:
			l.say(saying{sort: saysCall, name: s.Name, args: n, turned: &s.Name}, path, loops)
			l.exprs(s.Exprs, path, loops)
		case api.StIf:
			l.exprs(s.Exprs, path, loops)
			l.stmts(s.Kids[:1], l.own(path), loops)
			l.stmts(s.Kids[1:], l.own(path), loops)
		case api.StWhile:
			l.exprs(s.Exprs, path, loops)
			l.stmts(s.Kids, l.own(path), loops+1)
		case api.StBreak:
			l.say(saying{sort: saysJump, name: "break"}, path, loops)
		case api.StContinue:
			l.say(saying{sort: saysJump, name: "continue"}, path, loops)
		case api.StReturn, api.StPrint:
			l.exprs(s.Exprs, path, loops)
		case api.StBlock:
			l.stmts(s.Kids, l.own(path), loops)
		}
	}
}

func (l *layer) exprs(list []api.Expr, path []int, loops int) {
	for i := range list {
		e := &list[i]
		switch e.Kind {
		case api.ExVar:
			l.say(saying{sort: saysWord, name: e.Name, turned: &e.Name}, path, loops)
		case api.ExIndex:
			l.say(saying{sort: saysArray, name: e.Name, turned: &e.Name}, path, loops)
		case api.ExCall:
			l.say(saying{sort: saysCall, name: e.Name, args: len(e.Kids), turned: &e.Name}, path, loops)
		}
		l.exprs(e.Kids, path, loops)
	}
}

// isLocal is whether one of the sayings ahead of the i-th declares its name, in a scope around it.
func isLocal(says []saying, i int) bool {
	for _, s := range says[:i] {
		if s.sort == saysNew && s.name == says[i].name && len(s.path) <= len(says[i].path) && slices.Equal(s.path, says[i].path[:len(s.path)]) {
			return true
		}
	}
	return false
}

func globalAt(p api.Prog, name string) int {
	return slices.IndexFunc(p.Globals, func(g api.Global) bool { return g.Name == name })
}

func funcAt(p api.Prog, name string) int {
	return slices.IndexFunc(p.Funcs, func(f api.Func) bool { return f.Name == name })
}

// errOf is what is wrong with the i-th saying.
func errOf(p api.Prog, says []saying, i int) api.Errno {
	s := says[i]
	switch s.sort {
	case saysJump:
		if s.loops == 0 {
			return api.ErrLoop
		}
		return api.OK
	case saysNew:
		count := 0
		for _, other := range says[:i] {
			if other.sort == saysNew {
				count++
				if other.name == s.name && slices.Equal(other.path, s.path) {
					return api.ErrTwice
				}
			}
		}
		if count+1 > api.MaxLocals {
			return api.ErrBig
		}
		return api.OK
	}
	local, g, f := isLocal(says, i), globalAt(p, s.name), funcAt(p, s.name)
	switch {
	case local && s.sort == saysWord:
		return api.OK
	case local:
		return api.ErrKind
	case g >= 0 && (s.sort == saysWord && p.Globals[g].Size == 0 || s.sort == saysArray && p.Globals[g].Size > 0):
		return api.OK
	case g >= 0:
		return api.ErrKind
	case f < 0:
		return api.ErrName
	case s.sort != saysCall:
		return api.ErrKind
	case len(p.Funcs[f].Params) != s.args:
		return api.ErrArity
	}
	return api.OK
}

// faults is all that is wrong with a program, in order.
func faults(p api.Prog) []api.Diag {
	var out []api.Diag
	words := 0
	for i, g := range p.Globals {
		if globalAt(p, g.Name) < i {
			out = append(out, api.Diag{Err: api.ErrTwice, Name: g.Name})
		}
		if g.Size == 0 {
			words++
		}
		if words += g.Size; words > api.MaxData {
			out = append(out, api.Diag{Err: api.ErrSize, Name: g.Name})
		}
	}
	for i, f := range p.Funcs {
		if funcAt(p, f.Name) < i || globalAt(p, f.Name) >= 0 {
			out = append(out, api.Diag{Err: api.ErrTwice, Name: f.Name})
		}
	}
	if !slices.ContainsFunc(p.Funcs, func(f api.Func) bool { return f.Name == "main" && len(f.Params) == 0 }) {
		out = append(out, api.Diag{Err: api.ErrMain})
	}
	for _, f := range p.Funcs {
		says := laid(&f)
		for i, s := range says {
			if err := errOf(p, says, i); err != api.OK {
				out = append(out, api.Diag{Err: err, Func: f.Name, Name: s.name})
			}
		}
	}
	return out
}

// usesOf is what a function calls, and which globals it names.
func usesOf(p api.Prog, name string) (callees, globals []string) {
	at := funcAt(p, name)
	if at < 0 {
		return nil, nil
	}
	says := laid(&p.Funcs[at])
	for i, s := range says {
		if s.sort == saysNew || s.sort == saysJump || isLocal(says, i) {
			continue
		}
		if globalAt(p, s.name) >= 0 {
			globals = append(globals, s.name)
		} else if s.sort == saysCall && funcAt(p, s.name) >= 0 {
			callees = append(callees, s.name)
		}
	}
	slices.Sort(callees)
	slices.Sort(globals)
	return slices.Compact(callees), slices.Compact(globals)
}
