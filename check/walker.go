package check

import "brazier/api"

// A usage is what a name is used as.
type usage int

const (
	asWord usage = iota
	asArray
	asCall
)

// What a walker tells of, each ahead of what stands behind it.
type (
	// A use is a name that an expression or a statement has, and what it stands for there.
	use struct {
		name string
		as   usage
		args int // of a call
		is   thing
	}
	// A declaration is a parameter, or a StVar whose expression was gone through; again, if its scope has the name already.
	declaration struct {
		name  string
		again bool
	}
	// A stray is a break or continue that stands in no while.
	stray struct{ word string }
)

// fits is whether what the name stands for may be used so.
func (u use) fits() bool {
	switch u.as {
	case asWord:
		return u.is.role == localWord || u.is.role == globalWord
	case asArray:
		return u.is.role == globalArray
	}
	return u.is.role == ofFunction
}

// A walker goes through a function in the order in which it is checked.
type walker struct {
	scopes
	own   table
	loops int // the whiles in which it stands
	tell  func(found any)
}

func (w *walker) walk(f api.Func) {
	w.open()
	for _, name := range f.Params {
		w.declare(name)
	}
	w.stmts(f.Body)
	w.close()
}

func (w *walker) declare(name string) {
	_, again := w.inner()[name]
	w.tell(declaration{name, again})
	w.inner()[name] = struct{}{}
}

func (w *walker) use(name string, as usage, args int) {
	is := w.own[name]
	if w.local(name) {
		is = thing{role: localWord}
	}
	w.tell(use{name, as, args, is})
}

func (w *walker) leave(word string) {
	if w.loops == 0 {
		w.tell(stray{word})
	}
}

func (w *walker) stmts(l []api.Stmt) {
	for _, s := range l {
		w.stmt(s)
	}
}

func (w *walker) stmt(s api.Stmt) {
	switch s.Kind {
	case api.StSet:
		w.use(s.Name, asWord, 0)
	case api.StPut:
		w.use(s.Name, asArray, 0)
	case api.StCall:
		w.use(s.Name, asCall, len(s.Exprs))
	case api.StBreak:
		w.leave("break")
	case api.StContinue:
		w.leave("continue")
	}
	w.exprs(s.Exprs)
	switch s.Kind {
	case api.StVar:
		w.declare(s.Name)
	case api.StBlock:
		w.within(s.Kids)
	case api.StIf:
		w.apart(s.Kids)
	case api.StWhile:
		w.loops++
		w.apart(s.Kids)
		w.loops--
	}
}

// within goes through statements that have a scope of their own.
func (w *walker) within(l []api.Stmt) {
	w.open()
	w.stmts(l)
	w.close()
}

// apart goes through statements each of which has one.
func (w *walker) apart(l []api.Stmt) {
	for i := range l {
		w.within(l[i : i+1])
	}
}

func (w *walker) exprs(l []api.Expr) {
	for _, e := range l {
		w.expr(e)
	}
}

func (w *walker) expr(e api.Expr) {
	switch e.Kind {
	case api.ExVar:
		w.use(e.Name, asWord, 0)
	case api.ExIndex:
		w.use(e.Name, asArray, 0)
	case api.ExCall:
		w.use(e.Name, asCall, len(e.Kids))
	}
	w.exprs(e.Kids)
}
