package syntax

import (
	"math/rand"
	"strings"
	"testing"

	"brazier/api"
	"brazier/sample"
)

// A maker makes random trees that may be.
type maker struct{ *rand.Rand }

func newMaker(seed int64) maker { return maker{rand.New(rand.NewSource(seed))} }

func (m maker) one(of ...string) string { return of[m.Intn(len(of))] }

func (m maker) name() string {
	return m.one("x", "y", "a", "f", "main", "_", "int1", "Read", "els", "z9_", strings.Repeat("n", 64))
}

func (m maker) num() int32 {
	return []int32{0, 1, 2, 10, 4096, 1<<31 - 1, m.Int31()}[m.Intn(7)]
}

// exprs is up to most expressions.
func (m maker) exprs(most, deep int) []api.Expr {
	var out []api.Expr
	for range m.Intn(most + 1) {
		out = append(out, m.expr(deep))
	}
	return out
}

// expr is an expression that is at most so deep.
func (m maker) expr(deep int) api.Expr {
	n := m.Intn(10)
	if deep <= 1 {
		n %= 4
	}
	switch n {
	case 0:
		return eNum(m.num())
	case 1:
		return eVar(m.name())
	case 2:
		return eRead()
	case 3:
		return eCall(m.name())
	case 4:
		return eIndex(m.name(), m.expr(deep-1))
	case 5:
		return eCall(m.name(), m.exprs(3, deep-1)...)
	case 6:
		return eUn(api.Neg+m.Intn(3), m.expr(deep-1))
	}
	return eBin(api.Add+m.Intn(api.OrOr), m.expr(deep-1), m.expr(deep-1))
}

// stmt is a statement that is at most so deep; a closed one, behind which an else is another if's, if it is asked for.
func (m maker) stmt(deep int, closed bool) api.Stmt {
	n := m.Intn(13)
	if deep <= 2 {
		n %= 9
	}
	e := func() api.Expr { return m.expr(deep - 1) }
	switch n {
	case 0:
		return sVar(m.name(), m.exprs(1, deep-1)...)
	case 1:
		return sSet(m.name(), e())
	case 2:
		return sPut(m.name(), e(), e())
	case 3:
		return sCall(m.name(), m.exprs(3, deep-1)...)
	case 4:
		return sBreak()
	case 5:
		return sContinue()
	case 6:
		return sReturn(e())
	case 7:
		return sPrint(e())
	case 8:
		return sBlock()
	case 9:
		return sBlock(m.stmts(deep - 1)...)
	case 10:
		return sWhile(e(), m.stmt(deep-1, closed))
	case 11:
		return sIf(e(), m.stmt(deep-1, true), m.stmt(deep-1, closed))
	}
	if closed {
		return sBlock(sIf(eNum(1), sBreak()))
	}
	return sIf(e(), m.stmt(deep-1, false))
}

func (m maker) stmts(deep int) []api.Stmt {
	var out []api.Stmt
	for range m.Intn(4) {
		out = append(out, m.stmt(deep, false))
	}
	return out
}

func (m maker) prog(deep int) api.Prog {
	var p api.Prog
	for range m.Intn(4) {
		p.Globals = append(p.Globals, api.Global{Name: m.name(), Size: []int{0, 0, 1, 7, api.MaxWords}[m.Intn(5)]})
	}
	for range m.Intn(4) {
		f := fn(m.name(), nil, m.stmts(deep)...)
		for range m.Intn(api.MaxParams + 1) {
			f.Params = append(f.Params, m.name())
		}
		p.Funcs = append(p.Funcs, f)
	}
	return p
}

// text is a program's, written in any way that the grammar has.
func (m maker) text(p api.Prog) string { return sample.New(m.Intn).Text(p) }

// P8.1, P8.7: a tree that may be, written in any way that the grammar has, is parsed as that tree; printed, it is one text, and parsed as that tree again.
func TestTrees(t *testing.T) {
	m := newMaker(87)
	runs := 4000
	if testing.Short() {
		runs = 400
	}
	for i := range runs {
		p := m.prog(2 + i%8)
		if !May(p) {
			t.Fatalf("may not be: %+v", p)
		}
		text := m.text(p)
		if len(text) > api.MaxText {
			continue
		}
		parses(t, text, p)
		q, _, _ := Parse(text)
		if !Same(p, q) || !May(q) {
			t.Fatalf("%q: %+v; want %+v", text, q, p)
		}
		if printed := Print(q); len(printed) <= api.MaxText {
			parses(t, printed, p)
			if again, _, _ := Parse(printed); Print(again) != printed || Print(p) != printed {
				t.Fatalf("%q isn't printed as it was", printed)
			}
		}
	}
}

// all nodes of a program.
func nodes(p *api.Prog) (exprs []*api.Expr, stmts []*api.Stmt) {
	var expr func(l []api.Expr)
	expr = func(l []api.Expr) {
		for i := range l {
			exprs = append(exprs, &l[i])
			expr(l[i].Kids)
		}
	}
	var stmt func(l []api.Stmt)
	stmt = func(l []api.Stmt) {
		for i := range l {
			stmts = append(stmts, &l[i])
			expr(l[i].Exprs)
			stmt(l[i].Kids)
		}
	}
	for i := range p.Funcs {
		stmt(p.Funcs[i].Body)
	}
	return exprs, stmts
}

// fewer or more of a list.
func resized[T any](m maker, l []T, more T) []T {
	switch n := m.Intn(3); {
	case n == 0 && len(l) > 0:
		return l[:len(l)-1]
	case n == 1 && len(l) > 0:
		return l[1:]
	}
	return append(l, more)
}

// spoil turns something of a program, so that it may still be or not.
func (m maker) spoil(p *api.Prog) {
	exprs, stmts := nodes(p)
	if len(stmts) == 0 || m.Intn(20) == 0 {
		p.Globals = append(p.Globals, api.Global{Name: m.one("x", "", "9"), Size: m.Intn(3) - 1})
		return
	}
	name := m.one("x", "y", "", "if", "9", "a b", "ö")
	if len(exprs) == 0 || m.Intn(2) == 0 {
		s := stmts[m.Intn(len(stmts))]
		switch m.Intn(4) {
		case 0:
			s.Kind = m.Intn(14) - 1
		case 1:
			s.Name = name
		case 2:
			s.Exprs = resized(m, s.Exprs, eVar("x"))
		case 3:
			s.Kids = resized(m, s.Kids, sIf(eVar("x"), sBreak()))
		}
		return
	}
	e := exprs[m.Intn(len(exprs))]
	switch m.Intn(5) {
	case 0:
		e.Kind = m.Intn(10) - 1
	case 1:
		e.Name = name
	case 2:
		e.Num = int32(m.Intn(3) - 1)
	case 3:
		e.Op = m.Intn(24) - 1
	case 4:
		e.Kids = resized(m, e.Kids, eVar("x"))
	}
}

// P8.4, P8.7: just the trees that may be are parsed as they were printed; nothing that is asked of the others panics.
func TestSpoiltTrees(t *testing.T) {
	m := newMaker(84)
	may, mayNot := 0, 0
	for i := range 15000 {
		p := m.prog(2 + i%4)
		kept := cloneProg(p)
		for range 1 + m.Intn(2) {
			m.spoil(&p)
		}
		if Same(p, kept) != alike(p, kept) || !Same(p, p) {
			t.Fatalf("Same of %+v and %+v", p, kept)
		}
		if May(p) {
			may++
		} else {
			mayNot++
		}
		mays(t, p, May(p))
		for _, f := range p.Funcs {
			if Depth(f) != deepest(f) {
				t.Fatalf("Depth of %+v is %d", f, Depth(f))
			}
		}
	}
	if may < 2000 || mayNot < 2000 {
		t.Error(may, mayNot)
	}
}

// deepest is Depth, by its levels: how often one may go down.
func deepest(f api.Func) int {
	n := 0
	stmts, exprs := f.Body, []api.Expr(nil)
	for len(stmts)+len(exprs) > 0 {
		n++
		var kids []api.Stmt
		var below []api.Expr
		for _, s := range stmts {
			kids = append(kids, s.Kids...)
			below = append(below, s.Exprs...)
		}
		for _, e := range exprs {
			below = append(below, e.Kids...)
		}
		stmts, exprs = kids, below
	}
	return n
}

// Rule 4: what is handed in is neither changed nor kept, its spare room included.
func TestHandedIn(t *testing.T) {
	m := newMaker(4)
	for range 300 {
		p := m.prog(5)
		kept := cloneProg(p)
		room := append(p.Funcs, fn("spare", nil, sBreak()))
		q := api.Prog{Globals: p.Globals, Funcs: room[:len(p.Funcs)]}
		first := Print(q)
		May(q)
		Same(q, p)
		for _, f := range q.Funcs {
			Depth(f)
			Signature(f)
		}
		if !alike(q, kept) || room[len(p.Funcs)].Name != "spare" || Print(q) != first {
			t.Fatalf("%+v was %+v", q, kept)
		}
	}
}

// P8.2: Parse ends, of whatever bytes, and tells a place within the text; what is right may be.
func TestAnyText(t *testing.T) {
	m := newMaker(82)
	ends := map[api.Errno]int{}
	for range 20000 {
		text := []byte(m.text(m.prog(3)))
		for range m.Intn(3) {
			if len(text) == 0 {
				break
			}
			at := m.Intn(len(text))
			switch m.Intn(3) {
			case 0:
				text[at] = byte(m.one("(", ")", "{", "}", ";", " ", "x", "1", "=", "@")[0])
			case 1:
				text = append(text[:at:at], text[at+1:]...)
			case 2:
				text = text[:at]
			}
		}
		p, err, at := Parse(string(text))
		ends[err]++
		if err == api.OK && (!May(p) || at != (api.Place{})) {
			t.Fatalf("%q: %+v may not be; %v", text, p, at)
		}
		if err != api.OK && (len(p.Globals)+len(p.Funcs) > 0 || at.Off > len(text) || at.Line == 0) {
			t.Fatalf("%q: %+v, %d, %v", text, p, err, at)
		}
	}
	for _, err := range []api.Errno{api.OK, api.ErrEnd, api.ErrToken, api.ErrByte} {
		if ends[err] < 100 {
			t.Error("few texts end with", err, ends)
		}
	}
}
