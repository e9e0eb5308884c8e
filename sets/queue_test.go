package sets

import (
	"math"
	"math/rand"
	"slices"
	"testing"
)

// drain pops what q has.
func drain[T comparable](t *testing.T, q *Queue[T]) []T {
	t.Helper()
	var l []T
	for q.Len() > 0 {
		long := q.Len()
		x, there := q.Pop()
		if !there || q.Len() != long-1 {
			t.Fatalf("Pop = %v, %t; of %d there are %d", x, there, long, q.Len())
		}
		l = append(l, x)
	}
	var none T
	if x, there := q.Pop(); x != none || there || q.Len() != 0 {
		t.Fatalf("Pop of none = %v, %t", x, there)
	}
	return l
}

// P3.3: the chapter's example: what stands in it isn't put there.
func TestQueueExample(t *testing.T) {
	var q Queue[int]
	if !q.Push(1) || !q.Push(2) || q.Push(1) || q.Len() != 2 {
		t.Error("1, 2, 1 aren't two")
	}
	if l := drain(t, &q); !slices.Equal(l, []int{1, 2}) {
		t.Error(l)
	}
}

// P3.3: what was popped may be put there again, behind all.
func TestQueueAgain(t *testing.T) {
	var q Queue[string]
	for _, s := range []string{"b", "a", "", "c"} {
		if !q.Push(s) {
			t.Errorf("Push(%q) is nothing", s)
		}
	}
	if s, there := q.Pop(); s != "b" || !there {
		t.Error(s, there)
	}
	if q.Push("a") || q.Push("") || q.Push("c") {
		t.Error("put there twice")
	}
	if !q.Push("b") || q.Push("b") {
		t.Error("b isn't put there just once")
	}
	if l := drain(t, &q); !slices.Equal(l, []string{"a", "", "c", "b"}) {
		t.Error(l)
	}
	if !q.Push("a") || q.Len() != 1 {
		t.Error("an emptied queue isn't ready")
	}
	if l := drain(t, &q); !slices.Equal(l, []string{"a"}) {
		t.Error(l)
	}
}

// P3.3: a zero thing can stand in it: true tells it from nothing.
func TestQueueOfZero(t *testing.T) {
	var q Queue[int]
	if !q.Push(0) || q.Push(0) || q.Len() != 1 {
		t.Error("0 isn't put there just once")
	}
	if x, there := q.Pop(); x != 0 || !there {
		t.Error(x, there)
	}
	if x, there := q.Pop(); x != 0 || there {
		t.Error(x, there)
	}
}

// P3.3: a zero Queue is empty and ready, whatever is called first.
func TestZeroQueue(t *testing.T) {
	var q Queue[string]
	if l := drain(t, &q); l != nil {
		t.Error(l)
	}
	if !q.Push("x") || q.Len() != 1 {
		t.Error("isn't ready")
	}
}

// P3.4: nothing is in a nil Queue, and nothing turns it.
func TestNilQueue(t *testing.T) {
	var q *Queue[string]
	if q.Push("x") || q.Push("") || q.Len() != 0 {
		t.Error("a nil one was turned")
	}
	if l := drain(t, q); l != nil {
		t.Error(l)
	}
}

// P3.3: things of other kinds are told apart by their own equality.
func TestQueueOfOthers(t *testing.T) {
	type place struct {
		name string
		at   [2]int
	}
	var places Queue[place]
	a, b := place{"f", [2]int{1, 2}}, place{"f", [2]int{1, 3}}
	if !places.Push(a) || !places.Push(b) || places.Push(place{"f", [2]int{1, 2}}) {
		t.Error("places aren't told apart")
	}
	if l := drain(t, &places); !slices.Equal(l, []place{a, b}) {
		t.Error(l)
	}
	var pointers Queue[*int]
	x, y := new(int), new(int)
	if !pointers.Push(x) || !pointers.Push(y) || pointers.Push(x) || !pointers.Push(nil) || pointers.Push(nil) {
		t.Error("pointers aren't told apart")
	}
	if l := drain(t, &pointers); !slices.Equal(l, []*int{x, y, nil}) {
		t.Error(l)
	}
	var things Queue[any]
	if !things.Push(1) || !things.Push("1") || !things.Push(int8(1)) || !things.Push(nil) || things.Push(1) || things.Push(nil) {
		t.Error("things aren't told apart")
	}
	if l := drain(t, &things); !slices.Equal(l, []any{1, "1", int8(1), nil}) {
		t.Error(l)
	}
}

// P3.3: what isn't its own like never stands in it yet; nothing of it is kept when it's popped.
func TestQueueOfUnlike(t *testing.T) {
	var numbers Queue[float64]
	nan := math.NaN()
	if !numbers.Push(nan) || !numbers.Push(1) || !numbers.Push(nan) || numbers.Push(1) || numbers.Len() != 3 {
		t.Error("NaNs aren't put there each time")
	}
	for i, want := range []float64{nan, 1, nan} {
		if x, there := numbers.Pop(); !there || (x == 1) != (want == 1) {
			t.Error(i, x, there)
		}
	}
	if numbers.Len() != 0 || len(numbers.in) != 0 {
		t.Error("kept", numbers.in)
	}
}

// P3.3: a list within an interface can't be compared; it's put there, and no call panics.
func TestQueueOfLists(t *testing.T) {
	type couple struct{ a, b any }
	var things Queue[any]
	list := []int{1}
	for _, x := range []any{list, list, couple{1, list}, func() {}, map[int]int{}, [1]any{list}} {
		if !things.Push(x) {
			t.Errorf("%T isn't put there", x)
		}
	}
	if !things.Push(couple{1, 2}) || things.Push(couple{1, 2}) {
		t.Error("a couple isn't put there just once")
	}
	if things.Len() != 7 {
		t.Error(things.Len())
	}
	for range 2 {
		if x, there := things.Pop(); !there || len(x.([]int)) != 1 {
			t.Error(x, there)
		}
	}
	for range 5 {
		if _, there := things.Pop(); !there {
			t.Error("one is missing")
		}
	}
	if things.Len() != 0 || len(things.in) != 0 {
		t.Error("kept", things.in)
	}
}

// P3.3: what is out of it isn't kept (rule 8 of the language).
func TestPopKeepsNothing(t *testing.T) {
	var q Queue[*int]
	for range 4 {
		q.Push(new(int))
	}
	line := q.line
	q.Pop()
	q.Pop()
	if line[0] != nil || line[1] != nil || line[2] == nil || len(q.in) != 2 {
		t.Error("kept", line, len(q.in))
	}
}

// P3.3, P3.6: what was put there comes in that order, as often; and is refused just while it stands there.
func TestQueueAsList(t *testing.T) {
	r := rand.New(rand.NewSource(7))
	for range 200 {
		var q Queue[int]
		var line, put, got []int
		reach, often := 1+r.Intn(30), 2+r.Intn(3)
		for range 200 {
			if r.Intn(often) > 0 {
				x := r.Intn(reach)
				stands := slices.Contains(line, x)
				if q.Push(x) == stands {
					t.Fatalf("Push(%d) = %t", x, stands)
				}
				if !stands {
					line, put = append(line, x), append(put, x)
				}
			} else if x, there := q.Pop(); there {
				got, line = append(got, x), line[1:]
			} else if len(line) > 0 || x != 0 {
				t.Fatalf("Pop of %v = %d, false", line, x)
			}
			if q.Len() != len(line) {
				t.Fatalf("Len = %d; want %d", q.Len(), len(line))
			}
		}
		got = append(got, drain(t, &q)...)
		if !slices.Equal(got, put) {
			t.Fatalf("%v; want %v", got, put)
		}
	}
}
