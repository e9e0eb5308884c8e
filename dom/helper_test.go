package dom_test

import (
	"math/rand"
	"reflect"
	"strconv"
	"strings"
	"testing"

	"brazier/api"
	"brazier/dom"
	"brazier/flow"
	"brazier/sample"
)

// A maker makes random programs and blocks.
type maker struct {
	*rand.Rand
	*sample.Maker
}

func newMaker(seed int64) *maker {
	r := rand.New(rand.NewSource(seed))
	return &maker{Rand: r, Maker: sample.New(r.Intn)}
}

func rounds(n int) int {
	if testing.Short() {
		return n / 10
	}
	return n
}

// graph is a function of a text that has for each block those that it goes on to: none, or . alone, of one that is left; two of a branch.
func graph(t *testing.T, text string) api.Fn {
	t.Helper()
	f := api.Fn{Name: "f", Regs: 1}
	for _, line := range strings.Split(text, ";") {
		var to []int
		for _, s := range strings.Fields(strings.ReplaceAll(line, ".", "")) {
			n, err := strconv.Atoi(s)
			if err != nil {
				t.Fatal(err)
			}
			to = append(to, n)
		}
		switch len(to) {
		case 0:
			f.Blocks = append(f.Blocks, api.Block{Kind: api.BlReturn})
		case 1:
			f.Blocks = append(f.Blocks, api.Block{Kind: api.BlJump, To: to[0]})
		default:
			f.Blocks = append(f.Blocks, api.Block{Kind: api.BlBranch, To: to[0], Else: to[1]})
		}
	}
	if !flow.MayFn(f) {
		t.Fatalf("%s may not be", text)
	}
	return f
}

// A told is all that is told of a function.
type told struct {
	Order     []int
	Preds     [][]int
	Idom      []int
	Dominates [][]bool // by a, then b
	Loops     []api.Loop
	Depth     []int
	Reducible bool
}

func tell(f api.Fn) told {
	x := told{dom.Order(f), dom.Preds(f), dom.Idom(f), nil, dom.Loops(f), dom.Depth(f), dom.Reducible(f)}
	for a := range f.Blocks {
		var row []bool
		for b := range f.Blocks {
			row = append(row, dom.Dominates(f, a, b))
		}
		x.Dominates = append(x.Dominates, row)
	}
	return x
}

// as tells that all that is told of a function is what the oracle tells.
func as(t *testing.T, f api.Fn) told {
	t.Helper()
	got, want := tell(f), oracle(f)
	if !reflect.DeepEqual(got, want) {
		t.Fatalf("%+v; want %+v\n%s", got, want, flow.Print(f))
	}
	return got
}

// tells tells what is told of a graph, all in texts: lists of a list have ; between them, a loop's head stands ahead of a colon.
func tells(t *testing.T, text, order, preds, idom, loops, depth string, reducible bool) {
	t.Helper()
	f := graph(t, text)
	x := as(t, f)
	var heads []string
	for _, l := range x.Loops {
		heads = append(heads, strconv.Itoa(l.Head)+": "+list(l.Blocks))
	}
	got := []string{list(x.Order), lists(x.Preds), list(x.Idom), strings.Join(heads, "; "), list(x.Depth)}
	if want := []string{order, preds, idom, loops, depth}; !reflect.DeepEqual(got, want) || x.Reducible != reducible {
		t.Errorf("%s: %q, %t; want %q, %t", text, got, x.Reducible, want, reducible)
	}
}

func list(l []int) string {
	var texts []string
	for _, n := range l {
		texts = append(texts, strconv.Itoa(n))
	}
	return strings.Join(texts, " ")
}

func lists(l [][]int) string {
	var texts []string
	for _, one := range l {
		texts = append(texts, list(one))
	}
	return strings.Join(texts, "; ")
}
