package check

import "brazier/api"

// A role is what a name is there for.
type role int

const (
	undeclared role = iota
	localWord
	globalWord
	globalArray
	ofFunction
)

// A thing is what a name stands for: a zero one, if it isn't declared.
type thing struct {
	role   role
	params int // how many a function has
}

// A table is the names of a program's globals and functions. A name keeps what it stood for first: globals are put in ahead of functions.
type table map[string]thing

// tableOf is the names of a program that may have something wrong.
func tableOf(p api.Prog) table {
	t := table{}
	for _, g := range p.Globals {
		t.addGlobal(g)
	}
	for _, f := range p.Funcs {
		t.addFunc(f)
	}
	return t
}

func (t table) addGlobal(g api.Global) bool {
	if g.Size == 0 {
		return t.add(g.Name, thing{role: globalWord})
	}
	return t.add(g.Name, thing{role: globalArray})
}

func (t table) addFunc(f api.Func) bool {
	return t.add(f.Name, thing{role: ofFunction, params: len(f.Params)})
}

// add is whether the name wasn't there.
func (t table) add(name string, x thing) bool {
	if _, there := t[name]; there {
		return false
	}
	t[name] = x
	return true
}

// A scope is the names that were declared in it so far.
type scope map[string]struct{}

// Scopes are those in which something stands, each within the one ahead of it.
type scopes struct{ list []scope }

func (s *scopes) open() { s.list = append(s.list, scope{}) }

func (s *scopes) close() { s.list = s.list[:len(s.list)-1] }

func (s *scopes) inner() scope { return s.list[len(s.list)-1] }

// local is whether a name is that of a local word, where it stands.
func (s *scopes) local(name string) bool {
	for _, l := range s.list {
		if _, there := l[name]; there {
			return true
		}
	}
	return false
}
