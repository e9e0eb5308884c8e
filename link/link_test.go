package link_test

import (
	"math"
	"slices"
	"testing"

	"brazier/api"
	"brazier/asm"
	"brazier/link"
	"brazier/riscv"
	"brazier/sample"
)

// framed is units of these frames.
func framed(frames ...int) []api.Unit {
	var out []api.Unit
	for _, n := range frames {
		out = append(out, api.Unit{Name: "f", Frame: n, Lines: []api.Line{label("f")}})
	}
	return out
}

// P21.1: MaxCalls times the greatest frame, which is at least 16.
func TestStack(t *testing.T) {
	for _, x := range []struct {
		frames []int
		want   int
	}{
		{nil, 512}, {[]int{}, 512}, {[]int{16}, 512}, {[]int{0}, 512}, {[]int{15}, 512}, {[]int{-16}, 512}, {[]int{math.MinInt}, 512}, {[]int{1, 2, 3}, 512},
		{[]int{17}, 544}, {[]int{32}, 1024}, {[]int{16, 32}, 1024}, {[]int{32, 16}, 1024}, {[]int{32, 32, 32}, 1024}, {[]int{16, 48, 32}, 1536}, {[]int{4112, 16, 16, 0}, 131584}, {[]int{16, 1 << 18}, 1 << 23}, {[]int{-5, 1 << 40, 7}, 1 << 45},
	} {
		if got := link.Stack(framed(x.frames...)); got != x.want {
			t.Errorf("%d: %d; want %d", x.frames, got, x.want)
		}
	}
}

// head is the first six lines, with the two parts of the address behind Data and Stack.
func head(high, low int32) []api.Line {
	return []api.Line{label(".start"), ins(api.Lui, 2, 0, 0, high), ins(api.Addi, 2, 2, 0, low), {Kind: api.LineIns, Op: api.Jal, D: 1, Sym: "main"}, ins(api.Addi, 17, 0, 0, 3), ins(api.Ecall, 0, 0, 0, 0)}
}

// P21.1: the first lines, by what stands behind all Data and Stack.
func TestHead(t *testing.T) {
	word, array := api.Global{Name: "g"}, func(n int) api.Global { return api.Global{Name: "a", Size: n} }
	for _, x := range []struct {
		globals   []api.Global
		frames    []int
		high, low int32
	}{
		{nil, nil, 16, 512},
		{nil, []int{16}, 16, 512},
		{nil, []int{48}, 16, 1536},
		{nil, []int{64}, 17, -2048},
		{nil, []int{112}, 17, -512},
		{nil, []int{128}, 17, 0},
		{nil, []int{192}, 18, -2048},
		{nil, []int{176, 160}, 17, 1536},
		{nil, []int{1 << 18}, 2064, 0},
		{[]api.Global{word}, []int{16}, 16, 516},
		{[]api.Global{array(1)}, []int{16}, 16, 516},
		{[]api.Global{array(3)}, []int{16}, 16, 524},
		{[]api.Global{word, array(3), word, array(1)}, []int{16}, 16, 536},
		{[]api.Global{array(383)}, []int{16}, 16, 2044},
		{[]api.Global{array(384)}, []int{16}, 17, -2048},
		{[]api.Global{array(896)}, []int{16}, 17, 0},
		{[]api.Global{array(895)}, []int{16}, 17, -4},
		{[]api.Global{array(897)}, []int{16}, 17, 4},
		{[]api.Global{array(896)}, []int{32}, 17, 512},
		{slices.Repeat([]api.Global{array(4096)}, 4), []int{16}, 32, 512},
		{slices.Repeat([]api.Global{array(256)}, 64), []int{4112}, 64, 512},
		{slices.Repeat([]api.Global{word}, 64), []int{16}, 16, 768},
	} {
		units := framed(x.frames...)
		a := link.Link(x.globals, units)
		want := api.Asm{Data: x.globals, Stack: link.Stack(units), Lines: head(x.high, x.low)}
		for _, u := range units {
			want.Lines = append(want.Lines, u.Lines...)
		}
		if !asm.Same(a, want) || !asm.May(a) {
			t.Errorf("%+v, %d: %s; want %s", x.globals, x.frames, asm.Print(a), asm.Print(want))
		}
	}
}

// P21.1: the units' lines, in order.
func TestLink(t *testing.T) {
	globals := []api.Global{{Name: "a", Size: 3}, {Name: "g"}}
	one, two := ins(api.Addi, 10, 0, 0, 1), ins(api.Addi, 10, 0, 0, 2)
	jal := api.Line{Kind: api.LineIns, Op: api.Jal, Sym: ".f.0"}
	f := api.Unit{Name: "f", Frame: 32, Lines: []api.Line{label("f"), one, label(".f.0"), jal}}
	main := api.Unit{Name: "main", Frame: 16, Lines: []api.Line{label("main"), two}}
	first := head(16, 1040) // four words of Data, 32 frames of 32 bytes
	for _, x := range []struct {
		units []api.Unit
		want  []api.Line
	}{
		{[]api.Unit{f, main}, slices.Concat(first, f.Lines, main.Lines)},
		{[]api.Unit{main, f}, slices.Concat(first, main.Lines, f.Lines)},
		{[]api.Unit{f, f, main}, slices.Concat(first, f.Lines, f.Lines, main.Lines)},
		{[]api.Unit{{Frame: 32}}, first},
		{[]api.Unit{{Frame: 32}, main, {}}, slices.Concat(first, main.Lines)},
		{[]api.Unit{{Frame: 32, Lines: []api.Line{{}, one}}}, slices.Concat(first, []api.Line{{}, one})},
	} {
		if got, want := link.Link(globals, x.units), (api.Asm{Data: globals, Stack: 1024, Lines: x.want}); !asm.Same(got, want) {
			t.Errorf("%s; want %s", asm.Print(got), asm.Print(want))
		}
	}
}

// P21.1: sp is behind all that is there, by layer 18's addresses: the last word can be asked, the next one can't.
func TestStackPointer(t *testing.T) {
	m := newMaker(211)
	for range rounds(500) {
		var globals []api.Global
		for _, name := range []string{"g", "h", "a", "b"}[:m.Intn(5)] {
			globals = append(globals, api.Global{Name: name, Size: one(m, 0, 1, 2, 3, 1000, 4096, m.Intn(4097))})
		}
		units := framed(16*(1+m.Intn(300)), 16*(1+m.Intn(16)))
		for n, want := range map[int32]int{-4: api.EndDone, 0: api.EndFault} {
			main := api.Unit{Name: "main", Frame: 16, Lines: []api.Line{label("main"), ins(api.Lw, 10, 2, 0, n), ins(api.Jalr, 0, 1, 0, 0)}}
			a := link.Link(globals, append(framed(units[0].Frame), main))
			image, err := riscv.Load(a)
			if err != api.OK {
				t.Fatal(err)
			}
			if r := image.Run(nil, 100); r.End != want || r.End == api.EndDone && r.Steps != 7 {
				t.Fatalf("%d: %+v: %s", n, r, asm.Print(a))
			}
		}
	}
}

// P21.1: random units.
func TestRandomUnits(t *testing.T) {
	m := newMaker(212)
	for range rounds(3000) {
		data := m.Asm().Data
		var units []api.Unit
		frame, words := 16, 0
		lines := []api.Line{}
		for range m.Intn(4) {
			u := m.Unit()
			units = append(units, u)
			frame = max(frame, u.Frame)
			lines = append(lines, u.Lines...)
		}
		for _, g := range data {
			words += max(1, g.Size)
		}
		a := link.Link(data, units)
		if !slices.Equal(a.Data, data) || a.Stack != 32*frame || len(a.Lines) != 6+len(lines) || !slices.Equal(a.Lines[6:], lines) || !asm.May(a) {
			t.Fatalf("%+v", a)
		}
		if high, low := a.Lines[1].Num, a.Lines[2].Num; int(high)*4096+int(low) != 65536+4*words+32*frame || !slices.Equal(a.Lines[:6], head(high, low)) {
			t.Fatalf("%s", asm.Print(a))
		}
	}
}

// Rules 3, 4 and 6: nil and empty lists are one; what is handed in stays as it is, its spare room too; answers are new memory.
func TestLinkIsNew(t *testing.T) {
	m := newMaker(4)
	for range rounds(1000) {
		data := append(slices.Grow(m.Asm().Data, 9), api.Global{Name: "spare"})
		globals := data[:len(data)-1]
		lines := append(slices.Grow(m.Unit().Lines, 9), label("spare"))
		units := []api.Unit{{Name: "f", Frame: 64, Lines: lines[:len(lines)-1]}, m.Unit(), {Name: "spare"}}[:2]
		keptGlobals, kept := slices.Clone(globals), []api.Unit{sample.CopyUnit(units[0]), sample.CopyUnit(units[1])}
		a := link.Link(globals, units)
		want := sample.CopyAsm(a)
		link.Stack(units)
		clear(a.Data[:cap(a.Data)])
		clear(a.Lines[:cap(a.Lines)])
		if again := link.Link(keptGlobals, kept); !asm.Same(again, want) || !asm.Same(link.Link(globals, units), want) || !slices.Equal(globals, keptGlobals) {
			t.Fatalf("%+v; want %+v", again, want)
		}
		if data[len(data)-1].Name != "spare" || lines[len(lines)-1].Sym != "spare" || units[:3][2].Name != "spare" {
			t.Fatal("the spare room was used")
		}
	}
	if !asm.Same(link.Link(nil, nil), link.Link([]api.Global{}, []api.Unit{})) || !asm.Same(link.Link(nil, []api.Unit{{}}), link.Link(nil, []api.Unit{{Lines: []api.Line{}}})) {
		t.Error("nil and empty lists are one")
	}
}

// Rule 1: any arguments have an answer.
func TestAnyUnits(t *testing.T) {
	for _, size := range []int{math.MinInt, -1, 0, 1, 1 << 31, 1 << 62, math.MaxInt} {
		for _, frame := range []int{math.MinInt, -1, 0, 1, 7, 1 << 31, 1 << 62, math.MaxInt} {
			a := link.Link([]api.Global{{Size: size}, {Name: "g", Size: size}}, []api.Unit{{Frame: frame}, {Name: "x y", Lines: []api.Line{{}, {Kind: 7}}}})
			if len(a.Lines) != 8 || len(a.Data) != 2 || a.Stack != link.Stack(framed(frame)) || !asm.MayLine(a.Lines[1]) || !asm.MayLine(a.Lines[2]) {
				t.Errorf("%d, %d: %+v", size, frame, a)
			}
		}
	}
}
