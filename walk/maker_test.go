package walk_test

import (
	"math/rand"
	"testing"

	"brazier/sample"
)

// A maker makes random programs in which nothing is wrong.
type maker struct {
	*rand.Rand
	*sample.Maker
}

func newMaker(seed int64) *maker {
	r := rand.New(rand.NewSource(seed))
	return &maker{Rand: r, Maker: sample.New(r.Intn)}
}

func rounds(n int) int {
	if testing.Short() {
		return n / 10
	}
	return n
}

func one[T any](m *maker, l ...T) T { return l[m.Intn(len(l))] }
