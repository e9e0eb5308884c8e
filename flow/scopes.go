package flow

// Scopes tell which register a local name has. Registers are taken one above the other, and given back with what they were taken for, so that few are enough.
type scopes struct {
	names []map[string]int // each scope's, the innermost last
	next  int              // the first register that isn't taken
	most  int              // how many were ever taken at once
}

// take takes a register.
func (s *scopes) take() int {
	s.next++
	s.most = max(s.most, s.next)
	return s.next - 1
}

// borrowing gives back the registers that are taken meanwhile.
func (s *scopes) borrowing(do func()) {
	first := s.next
	do()
	s.next = first
}

// within does what stands in a scope of its own.
func (s *scopes) within(do func()) {
	s.names = append(s.names, map[string]int{})
	s.borrowing(do)
	s.names = s.names[:len(s.names)-1]
}

// declare lets a name of the innermost scope have a register, from now on.
func (s *scopes) declare(name string, register int) {
	s.names[len(s.names)-1][name] = register
}

// register is a local name's: the innermost scope's that has the name. False: no scope has it, so it is a global's.
func (s *scopes) register(name string) (int, bool) {
	for i := len(s.names) - 1; i >= 0; i-- {
		if r, there := s.names[i][name]; there {
			return r, true
		}
	}
	return 0, false
}
