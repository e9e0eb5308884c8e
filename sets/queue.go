package sets

// Queue is what is still to do.
type Queue[T comparable] struct {
	line []T            // the first one ahead
	in   map[T]struct{} // what stands in line, but for what isn't its own like
}

// Push: P3.3. What isn't its own like never stands in line yet: it's put there whenever it comes.
func (q *Queue[T]) Push(x T) bool {
	if q == nil {
		return false
	}
	if like(x) {
		if _, there := q.in[x]; there {
			return false
		}
		if q.in == nil {
			q.in = make(map[T]struct{})
		}
		q.in[x] = struct{}{}
	}
	q.line = append(q.line, x)
	return true
}

// Pop: P3.3. Its place in line is emptied: what is out of it isn't kept.
func (q *Queue[T]) Pop() (T, bool) {
	var none T
	if q.Len() == 0 {
		return none, false
	}
	x := q.line[0]
	q.line[0] = none
	q.line = q.line[1:]
	if like(x) {
		delete(q.in, x)
	}
	return x, true
}

// Len: P3.3.
func (q *Queue[T]) Len() int {
	if q == nil {
		return 0
	}
	return len(q.line)
}

// like tells whether x is its own like. A NaN isn't; nor is a list within an interface: to ask it is a panic, in a map as well.
func like[T comparable](x T) (same bool) {
	defer func() {
		if recover() != nil {
			same = false
		}
	}()
	return x == x
}
