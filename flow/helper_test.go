package flow_test

import (
	"math"
	"math/rand"
	"reflect"
	"slices"
	"strconv"
	"strings"
	"testing"

	"brazier/api"
	"brazier/check"
	"brazier/sample"
	"brazier/syntax"
)

// A maker makes random programs and blocks.
type maker struct {
	*rand.Rand
	*sample.Maker
}

func newMaker(seed int64) *maker {
	r := rand.New(rand.NewSource(seed))
	return &maker{Rand: r, Maker: sample.New(r.Intn)}
}

func rounds(n int) int {
	if testing.Short() {
		return n / 10
	}
	return n
}

func one[T any](m *maker, l ...T) T { return l[m.Intn(len(l))] }

// program is a text's tree, in which nothing is wrong.
func program(t *testing.T, text string) api.Prog {
	t.Helper()
	p, err, at := syntax.Parse(text)
	if err != api.OK {
		t.Fatalf("%.300q isn't a program: %d at %+v", text, err, at)
	}
	if d := check.Check(p); d != (api.Diag{}) {
		t.Fatalf("%.300q: %+v", text, d)
	}
	return p
}

// list is the words of a text, with blanks between them.
func list(text string) []int32 {
	var out []int32
	for _, s := range strings.Fields(text) {
		n, err := strconv.ParseInt(s, 10, 32)
		if err != nil {
			panic(err)
		}
		out = append(out, int32(n))
	}
	return out
}

// fn is the one function of a text (see sample.Blocks).
func fn(t *testing.T, text string) api.Fn {
	t.Helper()
	l := sample.Blocks(text)
	if len(l) != 1 {
		t.Fatalf("%q: %d functions", text, len(l))
	}
	return l[0]
}

// bend turns something, anywhere in what p points to: a number, a text, or how much there is in a list.
func (m *maker) bend(p any) {
	var places []reflect.Value
	var look func(v reflect.Value)
	look = func(v reflect.Value) {
		switch v.Kind() {
		case reflect.Struct:
			for i := range v.NumField() {
				look(v.Field(i))
			}
		case reflect.Slice:
			places = append(places, v)
			for i := range v.Len() {
				look(v.Index(i))
			}
		default:
			places = append(places, v)
		}
	}
	look(reflect.ValueOf(p).Elem())
	m.turn(places[m.Intn(len(places))])
}

func (m *maker) turn(v reflect.Value) {
	switch v.Kind() {
	case reflect.Int:
		v.SetInt(one(m, -2, -1, 0, 1, 2, 3, 4, 5, 6, 7, 8, 9, 10, 16, 17, 18, 19, 21, 22, 4095, 4096, 4097, math.MaxInt, math.MinInt, v.Int()+1, v.Int()-1))
	case reflect.Int32:
		v.SetInt(one(m, 0, 1, -1, v.Int()/2))
	case reflect.String:
		v.SetString(one(m, "", "g", "h", "a", "b", "f", "k", "l", "main", "int", "1x", "r1", "x y", v.String()+"_"))
	case reflect.Slice:
		m.turnList(v)
	}
}

// turnList leaves one out, has one twice or puts a zero one in.
func (m *maker) turnList(v reflect.Value) {
	at, n := m.Intn(v.Len()+1), v.Len()
	switch more := reflect.MakeSlice(v.Type(), 1, 1); {
	case n == 0 || m.Intn(3) == 0:
		v.Set(reflect.AppendSlice(reflect.AppendSlice(v.Slice3(0, at, at), more), v.Slice(at, n)))
	case m.Intn(2) == 0 && at < n:
		v.Set(reflect.AppendSlice(v.Slice3(0, at, at), v.Slice(at+1, n)))
	case at < n:
		v.Set(reflect.AppendSlice(v.Slice3(0, at+1, at+1), v.Slice(at, n)))
	}
}

// repeated is a text for each number from 0 on, n of them: # is the number.
func repeated(n int, text string) string {
	var out strings.Builder
	for i := range n {
		out.WriteString(strings.ReplaceAll(text, "#", strconv.Itoa(i)))
	}
	return out.String()
}

// equal is whether all fields are the same, an empty trace and none being one.
func equal(a, b api.Result) bool {
	same := slices.Equal(a.Trace, b.Trace)
	a.Trace, b.Trace = nil, nil
	return same && reflect.DeepEqual(a, b)
}
