package check_test

import (
	"math/rand"
	"reflect"
	"slices"
	"strconv"
	"testing"

	"brazier/api"
	"brazier/check"
	"brazier/syntax"
)

// A maker makes random programs that may be, whose names go together but where it slips.
type maker struct {
	*rand.Rand
	slips  int // one of so many names is any; 0: none
	p      api.Prog
	scopes [][]string
	locals int
	loops  int
}

func newMaker(seed int64, slips int) *maker {
	return &maker{Rand: rand.New(rand.NewSource(seed)), slips: slips}
}

func (m *maker) slip() bool { return m.slips > 0 && m.Intn(m.slips) == 0 }

func (m *maker) any() string {
	return one(m, []string{"g", "h", "a", "b", "f", "k", "main", "x", "y", "z"})
}

func one[T any](m *maker, l []T) T { return l[m.Intn(len(l))] }

func (m *maker) local(name string) bool {
	return slices.ContainsFunc(m.scopes, func(l []string) bool { return slices.Contains(l, name) })
}

// word is a name that is a word's here: empty, if there is none.
func (m *maker) word() string {
	var l []string
	for _, s := range m.scopes {
		l = append(l, s...)
	}
	for _, g := range m.p.Globals {
		if g.Size == 0 && !m.local(g.Name) {
			l = append(l, g.Name)
		}
	}
	return m.picked(l)
}

func (m *maker) array() string {
	var l []string
	for _, g := range m.p.Globals {
		if g.Size > 0 && !m.local(g.Name) {
			l = append(l, g.Name)
		}
	}
	return m.picked(l)
}

// picked is one of the names, or any by a slip.
func (m *maker) picked(l []string) string {
	switch {
	case m.slip():
		return m.any()
	case len(l) == 0:
		return ""
	}
	return one(m, l)
}

// function is the name of a function that can be called here, and how many arguments it takes.
func (m *maker) function() (string, int) {
	if f := one(m, m.p.Funcs); !m.local(f.Name) && !m.slip() {
		return f.Name, len(f.Params)
	}
	if m.slips == 0 {
		return "", 0
	}
	return m.any(), m.Intn(3)
}

func (m *maker) exprs(n, deep int) []api.Expr {
	var out []api.Expr
	for range n {
		out = append(out, m.expr(deep))
	}
	return out
}

func (m *maker) expr(deep int) api.Expr {
	n := m.Intn(7)
	if deep <= 1 {
		n %= 3
	}
	switch name := m.word(); {
	case n < 2 && name != "":
		return api.Expr{Kind: api.ExVar, Name: name}
	case n == 2:
		return api.Expr{Kind: api.ExRead}
	case n == 3:
		return api.Expr{Kind: api.ExUn, Op: api.Neg, Kids: m.exprs(1, deep-1)}
	case n == 4:
		return api.Expr{Kind: api.ExBin, Op: api.Add, Kids: m.exprs(2, deep-1)}
	}
	if name := m.array(); n == 5 && name != "" {
		return api.Expr{Kind: api.ExIndex, Name: name, Kids: m.exprs(1, deep-1)}
	}
	if name, args := m.function(); n == 6 && name != "" {
		return api.Expr{Kind: api.ExCall, Name: name, Kids: m.exprs(args, deep-1)}
	}
	return api.Expr{Kind: api.ExNum, Num: 1}
}

// declared is a name that is new in the innermost scope, but for slips.
func (m *maker) declared() string {
	for {
		name := m.any()
		inner := &m.scopes[len(m.scopes)-1]
		if !slices.Contains(*inner, name) || m.slip() {
			*inner = append(*inner, name)
			return name
		}
		if len(*inner) == 10 {
			return ""
		}
	}
}

// within makes what stands in a scope of its own.
func (m *maker) within(loops int, make func()) {
	kept := m.loops
	m.loops += loops
	m.scopes = append(m.scopes, nil)
	make()
	m.scopes = m.scopes[:len(m.scopes)-1]
	m.loops = kept
}

// kid is a statement in a scope of its own: closed, so that an else behind it isn't its own.
func (m *maker) kid(loops, deep int) api.Stmt {
	s := api.Stmt{Kind: api.StBlock}
	m.within(loops, func() {
		if s = m.stmt(deep); s.Kind == api.StIf || s.Kind == api.StWhile {
			s = api.Stmt{Kind: api.StBlock, Kids: []api.Stmt{s}}
		}
	})
	return s
}

func (m *maker) stmts(deep int) []api.Stmt {
	var out []api.Stmt
	for range m.Intn(5) {
		out = append(out, m.stmt(deep))
	}
	return out
}

func (m *maker) stmt(deep int) api.Stmt {
	n := m.Intn(12)
	if deep <= 2 {
		n %= 8
	}
	switch n {
	case 0, 1:
		s := api.Stmt{Kind: api.StVar, Exprs: m.exprs(m.Intn(2), 3)}
		if s.Name = m.declared(); s.Name != "" {
			return s
		}
	case 2, 3, 4:
		if s := m.named(n); s.Name != "" {
			return s
		}
	case 5:
		return api.Stmt{Kind: api.StReturn, Exprs: m.exprs(1, 3)}
	case 6:
		return api.Stmt{Kind: api.StPrint, Exprs: m.exprs(1, 3)}
	case 7:
		if m.loops > 0 || m.slip() {
			return api.Stmt{Kind: one(m, []int{api.StBreak, api.StContinue})}
		}
	case 8, 9:
		s := api.Stmt{Kind: api.StIf, Exprs: m.exprs(1, 3), Kids: []api.Stmt{m.kid(0, deep-1)}}
		if m.Intn(2) == 0 {
			s.Kids = append(s.Kids, m.kid(0, deep-1))
		}
		return s
	case 10:
		return api.Stmt{Kind: api.StWhile, Exprs: m.exprs(1, 3), Kids: []api.Stmt{m.kid(1, deep-1)}}
	}
	s := api.Stmt{Kind: api.StBlock}
	if deep > 2 {
		m.within(0, func() { s.Kids = m.stmts(deep - 1) })
	}
	return s
}

// named is a statement with a name: an empty one, if there is none of the kind.
func (m *maker) named(n int) api.Stmt {
	switch n {
	case 2:
		return api.Stmt{Kind: api.StSet, Name: m.word(), Exprs: m.exprs(1, 3)}
	case 3:
		return api.Stmt{Kind: api.StPut, Name: m.array(), Exprs: m.exprs(2, 3)}
	}
	name, args := m.function()
	return api.Stmt{Kind: api.StCall, Name: name, Exprs: m.exprs(args, 3)}
}

// prog lays down globals and the heads of functions, then makes what these do.
func (m *maker) prog() api.Prog {
	m.p = api.Prog{}
	taken := []string{"main"}
	name := func(l ...string) string {
		s := one(m, l)
		for slices.Contains(taken, s) && !m.slip() {
			s = one(m, []string{"g", "h", "a", "b", "f", "k", "x", "y", "z", "l"})
		}
		taken = append(taken, s)
		return s
	}
	for range m.Intn(4) {
		m.p.Globals = append(m.p.Globals, api.Global{Name: name("g", "h", "a", "b"), Size: one(m, []int{0, 0, 1, 4, api.MaxWords})})
	}
	for range m.Intn(3) {
		f := api.Func{Name: name("f", "k")}
		m.scopes = [][]string{nil}
		for range m.Intn(3) {
			f.Params = append(f.Params, m.declared())
		}
		m.p.Funcs = append(m.p.Funcs, f)
	}
	if !m.slip() {
		m.p.Funcs = slices.Insert(m.p.Funcs, m.Intn(len(m.p.Funcs)+1), api.Func{Name: "main"})
	}
	for i := range m.p.Funcs {
		f := &m.p.Funcs[i]
		m.scopes = [][]string{slices.Clone(f.Params)}
		f.Body = m.stmts(5)
	}
	return m.p
}

// P9.1 to P9.4: programs with any slips are told of just as the chapter, said another way, does.
func TestRandomPrograms(t *testing.T) {
	found := map[api.Errno]int{}
	for _, slips := range []int{0, 3, 20, 100} {
		m := newMaker(int64(91+slips), slips)
		for range rounds(4000) {
			p := m.prog()
			if !syntax.May(p) {
				t.Fatalf("may not be:\n%s%+v", syntax.Print(p), p)
			}
			kept := cloneProg(p)
			want := append(faults(p), api.Diag{})[0]
			if d := check.Check(p); d != want {
				t.Fatalf("%+v; want %+v\n%s", d, want, syntax.Print(p))
			}
			found[want.Err]++
			for _, name := range []string{"main", "f", "k", "g", "x"} {
				callees, globals := usesOf(p, name)
				if c, g := check.Uses(p, name); !slices.Equal(c, callees) || !slices.Equal(g, globals) {
					t.Fatalf("Uses(%s): %q, %q; want %q, %q\n%s", name, c, g, callees, globals, syntax.Print(p))
				}
				finds(t, p, name)
			}
			if !reflect.DeepEqual(p, kept) {
				t.Fatalf("%+v was %+v", p, kept)
			}
		}
	}
	for _, err := range []api.Errno{api.OK, api.ErrTwice, api.ErrName, api.ErrKind, api.ErrArity, api.ErrLoop, api.ErrMain} {
		if found[err] < 10 {
			t.Errorf("%d programs with %d", found[err], err)
		}
	}
}

func rounds(n int) int {
	if testing.Short() {
		return n / 10
	}
	return n
}

// finds tells that Find and Global answer the first of the name.
func finds(t *testing.T, p api.Prog, name string) {
	t.Helper()
	f, ok := check.Find(p, name)
	if i := funcAt(p, name); ok != (i >= 0) || ok && !alike(f, p.Funcs[i]) || !ok && !alike(f, api.Func{}) {
		t.Fatalf("Find(%s): %+v, %t", name, f, ok)
	}
	g, ok := check.Global(p, name)
	if i := globalAt(p, name); ok != (i >= 0) || ok && g != p.Globals[i] || !ok && g != (api.Global{}) {
		t.Fatalf("Global(%s): %+v, %t", name, g, ok)
	}
}

// P9.1 to P9.3: what is wrong is found wherever one name of a right program was turned.
func TestOneSlip(t *testing.T) {
	m := newMaker(93, 0)
	wrong := 0
	for range rounds(3000) {
		p := cloneProg(m.prog())
		if d := check.Check(p); d.Err != api.OK && d.Err != api.ErrSize {
			t.Fatalf("%+v\n%s", d, syntax.Print(p))
		}
		var says []saying
		for i := range p.Funcs {
			says = append(says, laid(&p.Funcs[i])...)
		}
		for _, s := range says {
			if s.turned == nil {
				continue
			}
			*s.turned = m.any()
			want := append(faults(p), api.Diag{})[0]
			if d := check.Check(p); d != want {
				t.Fatalf("%+v; want %+v\n%s", d, want, syntax.Print(p))
			}
			if want.Err != api.OK {
				wrong++
			}
			*s.turned = s.name
		}
	}
	if wrong < rounds(3000) {
		t.Error(wrong)
	}
}

// P9.5: where there is no Diag each name is a local word's, or Find or Global answers it, of the right sort; and Uses tells just these.
func TestNamesAreThere(t *testing.T) {
	m := newMaker(95, 60)
	names := map[sort]int{}
	for range rounds(6000) {
		p := m.prog()
		if check.Check(p) != (api.Diag{}) {
			continue
		}
		for _, f := range p.Funcs {
			says := laid(&f)
			for i, s := range says {
				if s.sort == saysNew || s.sort == saysJump {
					continue
				}
				names[s.sort]++
				if !there(p, f.Name, s, isLocal(says, i)) {
					t.Fatalf("%s of %s isn't there\n%s", s.name, f.Name, syntax.Print(p))
				}
			}
		}
	}
	for _, sort := range []sort{saysWord, saysArray, saysCall} {
		if names[sort] < 500 {
			t.Error(names)
		}
	}
}

// there is whether what a saying of the function in names is there, of its sort.
func there(p api.Prog, in string, s saying, local bool) bool {
	if local {
		return s.sort == saysWord
	}
	callees, globals := check.Uses(p, in)
	g, isGlobal := check.Global(p, s.name)
	f, isFunc := check.Find(p, s.name)
	switch s.sort {
	case saysWord:
		return isGlobal && g.Size == 0 && slices.Contains(globals, s.name)
	case saysArray:
		return isGlobal && g.Size > 0 && slices.Contains(globals, s.name)
	}
	return !isGlobal && isFunc && len(f.Params) == s.args && slices.Contains(callees, s.name)
}

// P9.6: the order of functions changes nothing of whether there is a Diag.
func TestOrderOfFunctions(t *testing.T) {
	m := newMaker(96, 60)
	found := map[bool]int{}
	for range rounds(5000) {
		p := m.prog()
		wrong := check.Check(p) != (api.Diag{})
		found[wrong]++
		q := cloneProg(p)
		m.Shuffle(len(q.Funcs), func(i, j int) { q.Funcs[i], q.Funcs[j] = q.Funcs[j], q.Funcs[i] })
		if d := check.Check(q); (d != api.Diag{}) != wrong {
			t.Fatalf("%+v of\n%sbut not of\n%s", d, syntax.Print(q), syntax.Print(p))
		}
	}
	if found[true] < rounds(500) || found[false] < rounds(500) {
		t.Error(found)
	}
}

// P9.6: the names of locals change nothing of whether there is a Diag.
func TestNamesOfLocals(t *testing.T) {
	m := newMaker(69, 60)
	found, turned := map[bool]int{}, 0
	for range rounds(5000) {
		p := m.prog()
		d := check.Check(p)
		found[d.Err != api.OK]++
		q := cloneProg(p)
		for i := range q.Funcs {
			turned += m.rename(&q.Funcs[i])
		}
		if e := check.Check(q); e.Err != d.Err || e.Func != d.Func {
			t.Fatalf("%+v of\n%s%+v of\n%s", e, syntax.Print(q), d, syntax.Print(p))
		}
	}
	if found[true] < rounds(500) || found[false] < rounds(500) || turned < rounds(5000) {
		t.Error(found, turned)
	}
}

// rename gives a function's locals other names, each name another one: new ones, or those of globals and functions that it doesn't name.
func (m *maker) rename(f *api.Func) int {
	says := laid(f)
	named := map[string]int{} // those that aren't local somewhere
	local := make([]bool, len(says))
	for i, s := range says {
		local[i] = s.sort == saysNew || s.sort != saysJump && isLocal(says, i)
		if !local[i] {
			named[s.name] = 1
		}
	}
	free := slices.DeleteFunc([]string{"main", "f", "k", "g", "h", "a", "b"}, func(name string) bool { return named[name] > 0 || m.Intn(2) == 0 })
	for i := range 10 {
		free = append(free, "new"+strconv.Itoa(i))
	}
	m.Shuffle(len(free), func(i, j int) { free[i], free[j] = free[j], free[i] })
	other := map[string]string{}
	turned := 0
	for i, s := range says {
		if !local[i] {
			continue
		}
		if other[s.name] == "" {
			other[s.name], free = free[0], free[1:]
		}
		*s.turned = other[s.name]
		turned++
	}
	return turned
}

// Rule 6: what is answered hangs on the arguments alone.
func TestAgain(t *testing.T) {
	m := newMaker(6, 30)
	var all []api.Prog
	var want []api.Diag
	for range rounds(500) {
		all = append(all, cloneProg(m.prog()))
		want = append(want, check.Check(all[len(all)-1]))
	}
	for i := len(all) - 1; i >= 0; i-- {
		if d := check.Check(all[i]); d != want[i] {
			t.Errorf("%+v; was %+v", d, want[i])
		}
	}
}
