package sets

import (
	"maps"
	"math"
	"math/rand"
	"slices"
	"testing"
)

// edges are the numbers at and beside the ends of what a Bits can have, and of its words.
func edges() []int {
	return []int{0, 1, 62, 63, 64, 65, 127, 128, 4095, 4096, 65471, 65472, 65534, 65535}
}

// outside are numbers that are never in a Bits.
func outside() []int {
	return []int{-1, -2, -63, -64, -65, -65536, math.MinInt, 65536, 65537, 65599, 65600, 131072, 1 << 32, 1<<32 + 5, math.MaxInt}
}

// has tells whether b has just these numbers, which rise: by all that asks it.
func has(t *testing.T, b *Bits, want ...int) {
	t.Helper()
	if l := slices.Collect(b.Each()); !slices.Equal(l, want) {
		t.Fatalf("Each: %v; want %v", l, want)
	}
	if b.Len() != len(want) {
		t.Fatalf("Len = %d; want %d", b.Len(), len(want))
	}
	for n := -70; n < most+70; n++ {
		if _, there := slices.BinarySearch(want, n); b.Has(n) != there {
			t.Fatalf("Has(%d) = %t of %v", n, b.Has(n), want)
		}
	}
}

// P3.1: the chapter's example, and no number, one, many; in any order, some more than once.
func TestOf(t *testing.T) {
	has(t, Of(3, 1, 3), 1, 3)
	has(t, Of())
	has(t, Of([]int(nil)...))
	has(t, Of([]int{}...))
	has(t, Of(0), 0)
	has(t, Of(65535), 65535)
	has(t, Of(edges()...), edges()...)
	turned := edges()
	slices.Reverse(turned)
	has(t, Of(append(turned, turned...)...), edges()...)
}

// P3.1: other numbers are never in it, however they are to come there; what goes together with them is.
func TestOutside(t *testing.T) {
	has(t, Of(outside()...))
	has(t, Of(append(outside(), 7, 65535)...), 7, 65535)
	for _, full := range []bool{false, true} {
		b := &Bits{}
		if full {
			for n := range most {
				b.Put(n)
			}
		}
		count := b.Len()
		for _, n := range outside() {
			if b.Put(n) || b.Has(n) || b.Drop(n) {
				t.Errorf("%d is in it", n)
			}
		}
		if b.Len() != count {
			t.Errorf("Len = %d; want %d", b.Len(), count)
		}
	}
}

// P3.1: the list of Of is neither changed nor kept.
func TestOfList(t *testing.T) {
	l := make([]int, 3, 8)
	copy(l, []int{9, 2, 9})
	b := Of(l...)
	b.Put(4)
	if !slices.Equal(l[:8], []int{9, 2, 9, 0, 0, 0, 0, 0}) {
		t.Error(l[:8])
	}
	l[0] = 5
	has(t, b, 2, 4, 9)
}

// P3.1: Put and Drop turn just their number, and tell whether they did.
func TestPutDrop(t *testing.T) {
	for _, n := range edges() {
		others := slices.DeleteFunc(edges(), func(m int) bool { return m == n })
		for _, b := range []*Bits{{}, Of(others...)} {
			before := slices.Collect(b.Each())
			if b.Drop(n) || b.Has(n) {
				t.Errorf("Drop(%d) of none", n)
			}
			has(t, b, before...)
			if !b.Put(n) || !b.Has(n) {
				t.Errorf("Put(%d) is nothing", n)
			}
			if b.Put(n) {
				t.Errorf("Put(%d) twice", n)
			}
			after := append(slices.Clone(before), n)
			slices.Sort(after)
			has(t, b, after...)
			if !b.Drop(n) || b.Drop(n) {
				t.Errorf("Drop(%d) not just once", n)
			}
			has(t, b, before...)
		}
	}
}

// P3.1: all of the numbers at once.
func TestAllNumbers(t *testing.T) {
	b := &Bits{}
	all := make([]int, most)
	for n := range all {
		all[n] = n
		if !b.Put(n) {
			t.Fatalf("Put(%d)", n)
		}
	}
	has(t, b, all...)
	if !b.Minus(b) || b.Len() != 0 {
		t.Error("Minus of itself leaves some")
	}
}

// P3.1: a zero Bits is empty and ready, whatever is called first.
func TestZeroBits(t *testing.T) {
	has(t, &Bits{})
	for name, turned := range map[string]func(b *Bits) bool{
		"Put":  func(b *Bits) bool { return b.Put(5) },
		"Join": func(b *Bits) bool { return b.Join(Of(5)) },
	} {
		var b Bits
		if !turned(&b) {
			t.Error(name)
		}
		has(t, &b, 5)
	}
	var b Bits
	if b.Drop(5) || b.Minus(Of(5)) || b.Join(&Bits{}) {
		t.Error("an empty one was turned")
	}
	has(t, b.Clone())
}

// P3.1: Each goes over what was in it when the loop began, whatever the loop does: near the number where it is, and far from it.
func TestEachWhileTurned(t *testing.T) {
	b := Of(1, 2, 3, 70, 200)
	var seen []int
	for n := range b.Each() {
		seen = append(seen, n)
		b.Drop(n + 1)
		b.Drop(70)
		b.Drop(200)
		b.Put(n + 10)
		b.Put(n + 130)
		b.Put(n + 500)
		b.Put(0)
	}
	if !slices.Equal(seen, []int{1, 2, 3, 70, 200}) {
		t.Error(seen)
	}
	has(t, b, 0, 1, 11, 12, 13, 80, 131, 132, 133, 210, 330, 501, 502, 503, 570, 700)
	for range b.Each() {
		b.Minus(b)
		b.Join(Of(9, 10, 1000))
	}
	has(t, b, 9, 10, 1000)
}

// P3.1: a loop begins where it's ranged over, not where it was asked for, and as often.
func TestEachBegins(t *testing.T) {
	b := Of(1, 2)
	loop := b.Each()
	b.Drop(1)
	b.Put(300)
	if l := slices.Collect(loop); !slices.Equal(l, []int{2, 300}) {
		t.Error(l)
	}
	b.Minus(b)
	if l := slices.Collect(loop); len(l) != 0 {
		t.Error(l)
	}
	b.Put(8)
	if l := slices.Collect(loop); !slices.Equal(l, []int{8}) {
		t.Error(l)
	}
}

// P3.1: a loop may be left, and stand within another one of the same set.
func TestEachLeft(t *testing.T) {
	b := Of(5, 6, 64, 65, 200)
	for stop := range 5 {
		var seen []int
		for n := range b.Each() {
			if len(seen) == stop {
				break
			}
			seen = append(seen, n)
		}
		if !slices.Equal(seen, []int{5, 6, 64, 65, 200}[:stop]) {
			t.Error(stop, seen)
		}
	}
	pairs := 0
	for n := range b.Each() {
		for m := range b.Each() {
			if n < m {
				pairs++
			}
		}
	}
	if pairs != 10 {
		t.Error(pairs)
	}
}

// P3.1: the chapter's example of Join; each of the two may be the longer one, or reach as far.
func TestJoin(t *testing.T) {
	b := Of(3, 1, 3)
	if b.Join(Of(1)) {
		t.Error("Join with what is in it turned it")
	}
	has(t, b, 1, 3)
	for _, c := range []struct {
		b, c   []int
		turned bool
		want   []int
	}{
		{nil, nil, false, nil},
		{nil, []int{0}, true, []int{0}},
		{[]int{0}, nil, false, []int{0}},
		{[]int{1, 3}, []int{2}, true, []int{1, 2, 3}},
		{[]int{1, 3}, []int{1, 3}, false, []int{1, 3}},
		{[]int{1, 3}, []int{1, 3, 4}, true, []int{1, 3, 4}},
		{[]int{5}, []int{65535}, true, []int{5, 65535}},
		{[]int{65535}, []int{5}, true, []int{5, 65535}},
		{[]int{5, 65535}, []int{5}, false, []int{5, 65535}},
		{[]int{64, 200}, []int{1, 64, 200}, true, []int{1, 64, 200}},
		{[]int{1, 64, 200}, []int{1, 63, 200}, true, []int{1, 63, 64, 200}},
	} {
		b, other := Of(c.b...), Of(c.c...)
		if b.Join(other) != c.turned {
			t.Errorf("%v Join %v isn't %t", c.b, c.c, c.turned)
		}
		has(t, b, c.want...)
		has(t, other, c.c...)
	}
}

// P3.1: likewise Minus.
func TestMinus(t *testing.T) {
	for _, c := range []struct {
		b, c   []int
		turned bool
		want   []int
	}{
		{nil, nil, false, nil},
		{nil, []int{0}, false, nil},
		{[]int{0}, nil, false, []int{0}},
		{[]int{0}, []int{0}, true, nil},
		{[]int{1, 3}, []int{2}, false, []int{1, 3}},
		{[]int{1, 2, 3}, []int{2, 4}, true, []int{1, 3}},
		{[]int{5}, []int{65535}, false, []int{5}},
		{[]int{65535}, []int{5}, false, []int{65535}},
		{[]int{5, 65535}, []int{5}, true, []int{65535}},
		{[]int{5, 9}, []int{5, 65535}, true, []int{9}},
		{[]int{1, 64, 200}, []int{1, 63, 201}, true, []int{64, 200}},
		{[]int{1, 64, 200}, []int{63, 200}, true, []int{1, 64}},
	} {
		b, other := Of(c.b...), Of(c.c...)
		if b.Minus(other) != c.turned {
			t.Errorf("%v Minus %v isn't %t", c.b, c.c, c.turned)
		}
		has(t, b, c.want...)
		has(t, other, c.c...)
	}
}

// P3.1: what c has goes on alone behind Join and Minus, and after them each word of it is its own.
func TestJoinApart(t *testing.T) {
	b, c := &Bits{}, Of(1, 200)
	b.Join(c)
	b.Put(2)
	b.Drop(200)
	has(t, c, 1, 200)
	c.Put(3)
	c.Drop(1)
	has(t, b, 1, 2)
}

// P3.1: a Clone goes on alone.
func TestClone(t *testing.T) {
	for _, l := range [][]int{nil, {0}, {1, 64}, edges()} {
		b := Of(l...)
		c := b.Clone()
		has(t, c, l...)
		c.Put(77)
		c.Put(7777)
		c.Drop(0)
		has(t, b, l...)
		b.Minus(b)
		b.Put(78)
		if c.Has(78) || !c.Has(77) || !c.Has(7777) {
			t.Error("the clone went with it")
		}
	}
}

// P3.1: Same asks for the numbers alone, not for how they came there.
func TestSame(t *testing.T) {
	long := Of(1, 3, 65535)
	long.Drop(65535)
	for _, c := range []struct {
		a, b *Bits
		same bool
	}{
		{&Bits{}, Of(), true},
		{Of(3, 1, 3), Of(1, 3), true},
		{Of(1, 3), long, true},
		{Of(1), long, false},
		{Of(1, 3, 64), long, false},
		{Of(1, 3), Of(1, 2), false},
		{Of(1), Of(1, 2), false},
		{Of(1), Of(65), false},
		{Of(1), Of(1, 65), false},
		{Of(1, 65), Of(1, 65), true},
		{Of(1, 65), Of(2, 65), false},
		{Of(1, 65), Of(1, 66), false},
		{Of(), Of(0), false},
		{Of(), Of(65535), false},
		{Of(), Of(65536), true},
	} {
		if Same(c.a, c.b) != c.same || Same(c.b, c.a) != c.same {
			t.Errorf("Same(%v, %v) isn't %t", slices.Collect(c.a.Each()), slices.Collect(c.b.Each()), c.same)
		}
		if !Same(c.a, c.a) || !Same(c.b, c.b.Clone()) {
			t.Error("not the same as itself")
		}
	}
	has(t, long, 1, 3)
}

// P3.4: nothing is in a nil Bits, nothing turns it, and its Clone is an empty set that can be turned.
func TestNilBits(t *testing.T) {
	var b *Bits
	has(t, b)
	if b.Put(1) || b.Drop(1) || b.Join(Of(1)) || b.Minus(Of(1)) || b.Join(nil) || b.Minus(nil) || b.Put(-1) {
		t.Error("a nil one was turned")
	}
	c := b.Clone()
	if c == nil {
		t.Fatal("Clone is nil")
	}
	has(t, c)
	if !c.Put(1) {
		t.Error("the clone can't be turned")
	}
	has(t, b)
	for range b.Each() {
		t.Error("a number of none")
	}
}

// P3.4: Same takes nil for an empty one.
func TestSameNil(t *testing.T) {
	dropped := Of(100)
	dropped.Drop(100)
	for _, b := range []*Bits{nil, {}, Of(), dropped} {
		if !Same(b, nil) || !Same(nil, b) {
			t.Error("an empty one isn't as nil")
		}
	}
	for _, n := range edges() {
		if Same(Of(n), nil) || Same(nil, Of(n)) {
			t.Error("nil has", n)
		}
	}
}

// P3.4: c may be nil, or b itself.
func TestWithNilOrItself(t *testing.T) {
	b := Of(1, 64, 300)
	if b.Join(nil) || b.Minus(nil) || b.Join(b) {
		t.Error("turned by nothing new")
	}
	has(t, b, 1, 64, 300)
	if !b.Minus(b) || b.Minus(b) || b.Join(b) {
		t.Error("Minus of itself isn't once")
	}
	has(t, b)
}

// model is a set as a map: slower and plainer than a Bits.
type model map[int]struct{}

// put, drop, join and minus are P3.1's, of a model.
func (m model) put(n int) bool {
	_, there := m[n]
	m[n] = struct{}{}
	return !there
}

func (m model) drop(n int) bool {
	_, there := m[n]
	delete(m, n)
	return there
}

func (m model) join(c model) bool {
	before := len(m)
	maps.Copy(m, c)
	return len(m) != before
}

func (m model) minus(c model) bool {
	before := len(m)
	for n := range maps.Clone(c) {
		delete(m, n)
	}
	return len(m) != before
}

// step does one thing with b, with n and c, and with their models; it tells whether they were turned.
func step(kind, n int, b, c *Bits, mb, mc model) (bool, bool) {
	switch kind {
	case 0:
		return b.Put(n), mb.put(n)
	case 1:
		return b.Drop(n), mb.drop(n)
	case 2:
		return b.Join(c), mb.join(mc)
	default:
		return b.Minus(c), mb.minus(mc)
	}
}

// P3.1, P3.5: whatever is done with sets, each has what its model has, which was treated likewise.
func TestBitsAsModels(t *testing.T) {
	r := rand.New(rand.NewSource(3))
	for range 200 {
		reach := []int{3, 70, 200, most}[r.Intn(4)]
		sets, models := []*Bits{{}, Of(), Of()}, []model{{}, {}, {}}
		for range 60 {
			i, j, n, kind := r.Intn(3), r.Intn(3), r.Intn(reach), r.Intn(9)/2
			if kind == 4 {
				sets[i], models[i] = sets[j].Clone(), maps.Clone(models[j])
			} else if got, want := step(kind, n, sets[i], sets[j], models[i], models[j]); got != want {
				t.Fatalf("step %d with %d: turned is %t; want %t", kind, n, got, want)
			}
			for k, b := range sets {
				want := slices.Sorted(maps.Keys(models[k]))
				if got := slices.Collect(b.Each()); !slices.Equal(got, want) || b.Len() != len(want) {
					t.Fatalf("after step %d: %v; want %v", kind, got, want)
				}
				if _, there := models[k][n]; b.Has(n) != there {
					t.Fatalf("Has(%d) = %t", n, !there)
				}
				if Same(sets[i], b) != maps.Equal(models[i], models[k]) {
					t.Fatalf("Same of %v and %v", models[i], want)
				}
			}
		}
	}
}
