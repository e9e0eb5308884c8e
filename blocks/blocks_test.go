package blocks_test

import (
	"reflect"
	"testing"

	"brazier/api"
	"brazier/blocks"
	"brazier/flow"
	"brazier/sample"
)

const text = "fn f 1 2; block 0; r1 = f(r0); branch r1 2 1; block 1; jump 2; block 2; branch r0 2 2; block 3; return r1; block 4; jump 1"

func one(t *testing.T) api.Fn {
	t.Helper()
	l := sample.Blocks(text)
	if len(l) != 1 || !flow.MayFn(l[0]) {
		t.Fatalf("%+v", l)
	}
	return l[0]
}

func TestOnTo(t *testing.T) {
	want := [][]int{{2, 1}, {2}, {2, 2}, nil, {1}}
	for n, b := range one(t).Blocks {
		if got := blocks.OnTo(b); !reflect.DeepEqual(got, want[n]) {
			t.Errorf("%d: %d", n, got)
		}
	}
	if got := blocks.OnTo(api.Block{To: 1, Else: 1}); got != nil {
		t.Error(got)
	}
}

func TestPreds(t *testing.T) {
	f := one(t)
	if got := blocks.Preds(f, blocks.All(f)); !reflect.DeepEqual(got, [][]int{nil, {0, 4}, {0, 1, 2}, nil, nil}) {
		t.Error(got)
	}
	if got := blocks.Preds(f, []int{2, 1}); !reflect.DeepEqual(got, [][]int{nil, nil, {2, 1}, nil, nil}) {
		t.Error(got)
	}
	if got := blocks.All(f); !reflect.DeepEqual(got, []int{0, 1, 2, 3, 4}) {
		t.Error(got)
	}
}

func TestCopy(t *testing.T) {
	f := one(t)
	g := blocks.Copy(f)
	if !reflect.DeepEqual(f, g) {
		t.Errorf("%+v", g)
	}
	g.Blocks[0].Ins[0].Args[0] = 9
	g.Blocks[0].Ins[0].D = 9
	g.Blocks[1] = api.Block{}
	if !reflect.DeepEqual(f, one(t)) {
		t.Errorf("a copy shares something: %+v", f)
	}
}

func TestEach(t *testing.T) {
	m := sample.Mid(text + "; fn g 0 1; block 0; return r0")
	got := blocks.Each(m, func(f api.Fn) api.Fn { return api.Fn{Name: f.Name + "x"} })
	if !reflect.DeepEqual(got, api.Mid{Globals: m.Globals, Fns: []api.Fn{{Name: "fx"}, {Name: "gx"}}}) {
		t.Errorf("%+v", got)
	}
	got.Globals[0].Name = "turned"
	if m.Globals[0].Name != "g" {
		t.Error("shares the globals")
	}
}

func TestTried(t *testing.T) {
	none := 0
	if got := blocks.Tried(func() int { return 7 }); got != 7 {
		t.Error(got)
	}
	if got := blocks.Tried(func() int { return 7 / none }); got != 0 {
		t.Error(got)
	}
	if got := blocks.Tried(func() []int { panic("none") }); got != nil {
		t.Error(got)
	}
}

func TestEvery(t *testing.T) {
	even := func(n int) bool { return n%2 == 0 }
	if !blocks.Every(nil, even) || !blocks.Every([]int{2, 4}, even) || blocks.Every([]int{2, 3, 4}, even) {
		t.Error("whether each may be")
	}
}

func TestNeed(t *testing.T) {
	for n := -3; n < 6; n++ {
		there := n >= 0 && n < 4
		if blocks.Within(n, 4) != there || blocks.Always.Fits(n, 4) != there || blocks.Perhaps.Fits(n, 4) != (there || n == -1) || blocks.Never.Fits(n, 4) != (n == -1) {
			t.Error(n)
		}
	}
}

func TestMayHead(t *testing.T) {
	for _, c := range []struct {
		name         string
		params, regs int
		want         bool
	}{{"f", 0, 0, true}, {"f", 8, 8, true}, {"f", 0, 4096, true}, {"f", 9, 9, false}, {"f", -1, 3, false}, {"f", 3, 2, false}, {"f", 0, 4097, false}, {"int", 0, 1, false}, {"", 0, 1, false}} {
		if got := blocks.MayHead(c.name, c.params, c.regs); got != c.want {
			t.Errorf("%+v: %v", c, got)
		}
	}
}

func TestMayNameAndArgs(t *testing.T) {
	if !blocks.MayName("g", true) || !blocks.MayName("", false) || blocks.MayName("", true) || blocks.MayName("g", false) || blocks.MayName("1x", true) {
		t.Error("names")
	}
	if !blocks.MayArgs(nil, false, 2) || !blocks.MayArgs([]int{}, true, 0) || !blocks.MayArgs([]int{0, 1, 1, 0, 0, 0, 0, 0}, true, 2) || blocks.MayArgs([]int{0}, false, 2) || blocks.MayArgs([]int{0, 2}, true, 2) || blocks.MayArgs([]int{-1}, true, 2) || blocks.MayArgs(make([]int, 9), true, 2) {
		t.Error("arguments")
	}
}
