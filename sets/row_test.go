package sets

import (
	"cmp"
	"fmt"
	"maps"
	"math"
	"math/rand"
	"slices"
	"testing"
)

// told is what a loop over a row tells, as one text a pair.
func told[K cmp.Ordered, V any](loop func(func(K, V) bool)) []string {
	var l []string
	for k, v := range loop {
		l = append(l, fmt.Sprint(k, "=", v))
	}
	return l
}

// keeps tells whether r has just these pairs: by all that asks it.
func keeps[K cmp.Ordered, V comparable](t *testing.T, r *Row[K, V], want map[K]V) {
	t.Helper()
	keys := slices.Sorted(maps.Keys(want))
	if r.Len() != len(keys) {
		t.Fatalf("Len = %d; want %d", r.Len(), len(keys))
	}
	var seen []K
	for k, v := range r.Each() {
		seen = append(seen, k)
		if v != want[k] {
			t.Fatalf("Each: %v of %v; want %v", v, k, want[k])
		}
	}
	if !slices.Equal(seen, keys) {
		t.Fatalf("Each: %v; want %v", seen, keys)
	}
	for i, k := range keys {
		if v, there := r.Get(k); !there || v != want[k] {
			t.Fatalf("Get(%v) = %v, %t; want %v", k, v, there, want[k])
		}
		if got, all := told(r.From(k)), told(r.Each()); !slices.Equal(got, all[i:]) {
			t.Fatalf("From(%v): %v of %v", k, got, all)
		}
	}
}

// P3.2: Put tells whether the key had no value, and gives it this one; Get finds the last one.
func TestPutGet(t *testing.T) {
	var r Row[string, int]
	want := map[string]int{}
	for i, k := range []string{"m", "a", "z", "m", "", "mm", "a", "m", "M", "", "zz"} {
		_, there := want[k]
		if r.Put(k, i) == there {
			t.Errorf("Put(%q) = %t", k, there)
		}
		want[k] = i
		keeps(t, &r, want)
	}
	for _, k := range []string{"b", "A", "zzz", "m ", "\x00"} {
		if v, there := r.Get(k); there || v != 0 {
			t.Errorf("Get(%q) = %d, %t", k, v, there)
		}
	}
}

// P3.2: a value is there, though it's a zero one.
func TestZeroValue(t *testing.T) {
	var r Row[int, *int]
	if !r.Put(1, nil) || r.Put(1, nil) || r.Len() != 1 {
		t.Error("a nil value isn't there")
	}
	if v, there := r.Get(1); v != nil || !there {
		t.Error(v, there)
	}
	if !r.Drop(1) {
		t.Error("wasn't dropped")
	}
}

// P3.2: Drop takes away just this key, wherever it stands, and tells whether it was there.
func TestDrop(t *testing.T) {
	for _, k := range []int{-5, 0, 3, 9, 10} {
		r := &Row[int, string]{}
		want := map[int]string{}
		for _, k := range []int{9, 0, -5, 3, 10} {
			r.Put(k, fmt.Sprint("v", k))
			want[k] = fmt.Sprint("v", k)
		}
		for _, other := range []int{-6, 1, 11} {
			if r.Drop(other) {
				t.Errorf("Drop(%d) of none", other)
			}
			keeps(t, r, want)
		}
		if !r.Drop(k) || r.Drop(k) {
			t.Errorf("Drop(%d) not just once", k)
		}
		delete(want, k)
		keeps(t, r, want)
		if v, there := r.Get(k); v != "" || there {
			t.Errorf("Get(%d) = %q, %t", k, v, there)
		}
		if !r.Put(k, "new") {
			t.Errorf("Put(%d) isn't the first", k)
		}
		want[k] = "new"
		keeps(t, r, want)
	}
}

// P3.2: what is dropped isn't kept in a row's spare room (rule 8 of the language).
func TestDropKeepsNothing(t *testing.T) {
	var r Row[string, *int]
	for _, k := range []string{"a", "b", "c"} {
		r.Put(k, new(int))
	}
	r.Drop("a")
	r.Drop("c")
	for _, p := range r.pairs[len(r.pairs):cap(r.pairs)] {
		if p.key != "" || p.value != nil {
			t.Error("kept", p.key)
		}
	}
}

// P3.2: keys are whole numbers of any kind, or texts, which rise byte by byte; also of types of their own.
func TestKeys(t *testing.T) {
	type name string
	checkKeys(t, []int{math.MinInt, -2, -1, 0, 1, 9, 10, math.MaxInt})
	checkKeys(t, []int8{-128, -1, 0, 127})
	checkKeys(t, []uint64{0, 1, 1 << 63, math.MaxUint64})
	checkKeys(t, []uint8{0, 127, 128, 255})
	checkKeys(t, []string{"", "\x00", "10", "9", "A", "Z", "a", "a\x00", "aa", "ab", "b", "\x7f", "é", "\xff"})
	checkKeys(t, []name{"", "A", "a", "aa"})
}

// checkKeys puts keys, which are given rising, in another order.
func checkKeys[K cmp.Ordered](t *testing.T, keys []K) {
	t.Helper()
	var r Row[K, int]
	want := map[K]int{}
	for i := range keys {
		at := i * 7 % len(keys)
		if len(keys)%7 == 0 {
			at = len(keys) - 1 - i
		}
		r.Put(keys[at], at)
		want[keys[at]] = at
	}
	keeps(t, &r, want)
	i := 0
	for k, at := range r.Each() {
		if k != keys[i] || at != i {
			t.Errorf("%v stands at %d", k, i)
		}
		i++
	}
}

// P3.2: From begins with the key, or where it would stand.
func TestFrom(t *testing.T) {
	var r Row[string, int]
	for i, k := range []string{"b", "d", "dd"} {
		r.Put(k, i)
	}
	for from, want := range map[string][]string{
		"":      {"b=0", "d=1", "dd=2"},
		"a":     {"b=0", "d=1", "dd=2"},
		"b":     {"b=0", "d=1", "dd=2"},
		"b\x00": {"d=1", "dd=2"},
		"c":     {"d=1", "dd=2"},
		"d":     {"d=1", "dd=2"},
		"da":    {"dd=2"},
		"dd":    {"dd=2"},
		"ddd":   nil,
		"z":     nil,
	} {
		if got := told(r.From(from)); !slices.Equal(got, want) {
			t.Errorf("From(%q): %v; want %v", from, got, want)
		}
	}
}

// P3.2: a loop goes over what was there when it began, keys and values, whatever it does.
func TestRowLoopWhileTurned(t *testing.T) {
	for _, from := range []bool{false, true} {
		r := &Row[int, string]{}
		for _, k := range []int{1, 2, 3, 5} {
			r.Put(k, "old")
		}
		loop, want := r.Each(), []string{"1=old", "2=old", "3=old", "5=old"}
		if from {
			loop, want = r.From(2), want[1:]
		}
		var seen []string
		for k, v := range loop {
			seen = append(seen, fmt.Sprint(k, "=", v))
			r.Drop(2)
			r.Drop(1)
			r.Put(3, "new")
			r.Put(4, "new")
			r.Put(0, "new")
			r.Put(k+10, "new")
		}
		if !slices.Equal(seen, want) {
			t.Errorf("%v; want %v", seen, want)
		}
		after := map[int]string{0: "new", 3: "new", 4: "new", 5: "old", 12: "new", 13: "new", 15: "new"}
		if !from {
			after[11] = "new"
		}
		keeps(t, r, after)
	}
}

// P3.2: a loop begins where it's ranged over, not where it was asked for, and as often.
func TestRowLoopBegins(t *testing.T) {
	r := &Row[int, int]{}
	r.Put(4, 4)
	r.Put(6, 6)
	each, from := r.Each(), r.From(5)
	r.Drop(4)
	r.Put(1, 1)
	r.Put(2, 2)
	r.Put(5, 5)
	if got := told(each); !slices.Equal(got, []string{"1=1", "2=2", "5=5", "6=6"}) {
		t.Error(got)
	}
	if got := told(from); !slices.Equal(got, []string{"5=5", "6=6"}) {
		t.Error(got)
	}
	r.Drop(6)
	r.Put(5, 50)
	r.Put(9, 9)
	if got := told(each); !slices.Equal(got, []string{"1=1", "2=2", "5=50", "9=9"}) {
		t.Error(got)
	}
	if got := told(from); !slices.Equal(got, []string{"5=50", "9=9"}) {
		t.Error(got)
	}
	for _, k := range []int{1, 2, 5, 9} {
		r.Drop(k)
	}
	if len(told(each))+len(told(from)) != 0 {
		t.Error("pairs of none")
	}
}

// P3.2: a loop may be left, and stand within another one of the same row.
func TestRowLoopLeft(t *testing.T) {
	r := &Row[int, int]{}
	for k := range 5 {
		r.Put(k, k*k)
	}
	for stop := range 6 {
		each, from := 0, 0
		for range r.Each() {
			if each == stop {
				break
			}
			each++
		}
		for range r.From(2) {
			if from == stop {
				break
			}
			from++
		}
		if each != min(stop, 5) || from != min(stop, 3) {
			t.Error(stop, each, from)
		}
	}
	pairs := 0
	for k := range r.Each() {
		for range r.From(k + 1) {
			pairs++
		}
	}
	if pairs != 10 {
		t.Error(pairs)
	}
}

// P3.2: a zero Row is empty and ready, whatever is called first.
func TestZeroRow(t *testing.T) {
	var r Row[string, string]
	keeps(t, &r, nil)
	if r.Drop("") || len(told(r.From(""))) != 0 {
		t.Error("a key of none")
	}
	if v, there := r.Get(""); v != "" || there {
		t.Error(v, there)
	}
	if !r.Put("", "v") {
		t.Error("isn't ready")
	}
	keeps(t, &r, map[string]string{"": "v"})
}

// P3.4: nothing is in a nil Row, and nothing turns it.
func TestNilRow(t *testing.T) {
	var r *Row[int, string]
	if r.Put(1, "v") || r.Put(0, "") || r.Drop(1) || r.Drop(0) {
		t.Error("a nil one was turned")
	}
	keeps(t, r, nil)
	for _, k := range []int{-1, 0, 1} {
		if v, there := r.Get(k); v != "" || there {
			t.Error(k, v, there)
		}
		if l := told(r.From(k)); len(l) != 0 {
			t.Error(k, l)
		}
	}
}

// P3.2, P3.5: whatever is done with a row, it keeps what a map keeps that was treated likewise.
func TestRowAsMap(t *testing.T) {
	r := rand.New(rand.NewSource(5))
	for range 100 {
		var row Row[int16, int]
		want := map[int16]int{}
		reach := 1 + r.Intn(40)
		for i := range 80 {
			k := int16(r.Intn(reach) - reach/2)
			_, there := want[k]
			if r.Intn(3) > 0 {
				if row.Put(k, i) == there {
					t.Fatalf("Put(%d) = %t", k, there)
				}
				want[k] = i
			} else {
				if row.Drop(k) != there {
					t.Fatalf("Drop(%d) = %t", k, !there)
				}
				delete(want, k)
				if v, there := row.Get(k); v != 0 || there {
					t.Fatalf("Get(%d) = %d, %t", k, v, there)
				}
			}
			keeps(t, &row, want)
		}
	}
}
