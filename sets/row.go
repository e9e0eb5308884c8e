package sets

import (
	"cmp"
	"iter"
	"slices"
)

// pair is a key and its value.
type pair[K cmp.Ordered, V any] struct {
	key   K
	value V
}

// Row has of each key one value.
type Row[K cmp.Ordered, V any] struct {
	pairs []pair[K, V] // by rising keys, no key twice
}

// held is the pairs of r, for it to be asked: a nil one has none.
func (r *Row[K, V]) held() []pair[K, V] {
	if r == nil {
		return nil
	}
	return r.pairs
}

// find tells where k's pair stands, or would stand, and whether it is there.
func (r *Row[K, V]) find(k K) (int, bool) {
	return slices.BinarySearchFunc(r.held(), k, func(p pair[K, V], k K) int {
		return cmp.Compare(p.key, k)
	})
}

// Put: P3.2.
func (r *Row[K, V]) Put(k K, v V) bool {
	if r == nil {
		return false
	}
	i, there := r.find(k)
	if there {
		r.pairs[i].value = v
		return false
	}
	r.pairs = slices.Insert(r.pairs, i, pair[K, V]{k, v})
	return true
}

// Get: P3.2.
func (r *Row[K, V]) Get(k K) (V, bool) {
	i, there := r.find(k)
	if !there {
		var none V
		return none, false
	}
	return r.pairs[i].value, true
}

// Drop: P3.2.
func (r *Row[K, V]) Drop(k K) bool {
	i, there := r.find(k)
	if there {
		r.pairs = slices.Delete(r.pairs, i, i+1)
	}
	return there
}

// Len: P3.2.
func (r *Row[K, V]) Len() int { return len(r.held()) }

// Each: P3.2.
func (r *Row[K, V]) Each() iter.Seq2[K, V] {
	return func(yield func(K, V) bool) { tell(r.held(), yield) }
}

// From: P3.2. Where k stands is looked up when the loop begins: till then it may move.
func (r *Row[K, V]) From(k K) iter.Seq2[K, V] {
	return func(yield func(K, V) bool) {
		i, _ := r.find(k)
		tell(r.held()[i:], yield)
	}
}

// tell goes over a copy of the pairs: what the loop does to the row doesn't touch it.
func tell[K cmp.Ordered, V any](pairs []pair[K, V], yield func(K, V) bool) {
	for _, p := range slices.Clone(pairs) {
		if !yield(p.key, p.value) {
			return
		}
	}
}
