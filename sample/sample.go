// Package sample makes programs, trees and blocks, for the tests of several layers. Which, is told by a function that picks numbers.
package sample

import (
	"math"

	"brazier/api"
)

// A Maker makes programs in which nothing is wrong, of few names, so that they shadow each other, and Mids that may be.
type Maker struct {
	pick   func(n int) int
	p      api.Prog
	scopes [][]string
	loops  int
	m      api.Mid
}

// New is a maker that goes by pick: a number from 0 to n - 1.
func New(pick func(n int) int) *Maker { return &Maker{pick: pick} }

// one is any of them.
func one[T any](m *Maker, l ...T) T { return l[m.pick(len(l))] }

// word is any at all.
func (m *Maker) word() int32 { return int32(m.pick(1<<16)<<16 | m.pick(1<<16)) }

// Input is some words, most of them small.
func (m *Maker) Input() []int32 {
	var out []int32
	for range m.pick(12) {
		out = append(out, one(m, 0, 1, 2, 3, -1, int32(m.pick(10)), m.word()))
	}
	return out
}

// small is a number that a text may have, mostly a small one.
func (m *Maker) small() int32 {
	if m.pick(8) == 0 {
		return one[int32](m, 31, 32, 255, 4096, 65536, math.MaxInt32)
	}
	return int32(m.pick(6))
}
