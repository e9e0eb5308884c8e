package regs_test

import (
	"fmt"
	"slices"
	"strings"
	"testing"

	"brazier/api"
	"brazier/pick"
	"brazier/regs"
)

// live tells what is live ahead of each instruction.
func live(t *testing.T, text, want string) {
	t.Helper()
	if got := regs.Live(vfn(t, text)); shown(got) != want {
		t.Errorf("%s: %s; want %s", text, shown(got), want)
	}
}

// P16.1: straight on.
func TestLive(t *testing.T) {
	live(t, "vfn f 1 2; add r1 r0 r0; ret r1", "0; 1")
	live(t, "vfn f 0 5; ret r4", "4")
	live(t, "vfn f 2 4; li r2 1; mv r3 r1; addi r2 r3 1; ret r2", "1; 1; 3; 2")
	live(t, "vfn f 2 4; add r1 r1 r2; sub r3 - r1; add r3 r3 -; ret r3", "1 2; 1; 3; 3")
	live(t, "vfn f 0 4; li r1 1; li r1 2; ret r1", "; ; 1")
	live(t, "vfn f 0 4; read r1; print r1; get r2 g; set g r2; idx r3 a r2; put a r3 r2; ret r0", "0; 0 1; 0; 0 2; 0 2; 0 2 3; 0")
	live(t, "vfn f 0 9; call r1 k r3 r2 r3; call - k r1; call r1 k r1 r8; ret r1", "2 3 8; 1 8; 1 8; 1")
	live(t, "vfn f 0 4; div r1 - -; slti r1 - 3; ret r2", "2; 2; 2")
	live(t, "vfn f 0 4; addi r1 r1 1; ret r2", "1 2; 2")
}

// P16.1: on to places, to both, to none; round about, and where nothing comes.
func TestLiveWays(t *testing.T) {
	live(t, "vfn f 0 4; jump 7; print r0; label 7; ret r1", "1; 0 1; 1; 1")
	live(t, "vfn f 0 4; bnez r0 7; ret r1; label 7; ret r2", "0 1 2; 1; 2; 2")
	live(t, "vfn f 0 4; beqz r0 7; li r2 1; label 7; ret r2", "0 2; ; 2; 2")
	live(t, "vfn f 0 4; ret r1; label 7; print r0; jump 7", "1; 0; 0; 0")
	live(t, "vfn f 0 4; label 7; jump 7", "; ")
	live(t, "vfn f 2 4; label 7; addi r0 r0 -1; bnez r0 7; ret r1", "0 1; 0 1; 0 1; 1")
	live(t, "vfn f 2 6; label 1; print r2; label 2; print r3; bnez r4 2; bnez r5 1; ret r0", "0 2 3 4 5; 0 2 3 4 5; 0 2 3 4 5; 0 2 3 4 5; 0 2 3 4 5; 0 2 3 4 5; 0")
	live(t, "vfn f 0 3; jump 3; label 1; ret r0; label 2; jump 1; label 3; jump 2", "0; 0; 0; 0; 0; 0; 0")
	live(t, "vfn f 0 3; bnez r1 2147483647; label 0; beqz r1 0; label 2147483647; ret r0", "0 1; 0 1; 0 1; 0; 0")
}

// spanned tells of registers from where to where they are of use.
func spanned(t *testing.T, text, want string) {
	t.Helper()
	var l []string
	for _, s := range regs.Spans(vfn(t, text)) {
		l = append(l, fmt.Sprintf("%d-%d", s.From, s.To))
	}
	if got := strings.Join(l, " "); got != want {
		t.Errorf("%s: %s; want %s", text, got, want)
	}
}

// P16.2: places.
func TestSpans(t *testing.T) {
	spanned(t, "vfn f 1 2; add r1 r0 r0; ret r1", "0-1 1-2")
	spanned(t, "vfn f 3 4; li r3 1; ret r3", "0-0 0-0 0-0 1-2")
	spanned(t, "vfn f 0 0; label 3; jump 3", "")
	spanned(t, "vfn f 2 4; ret r0", "0-1 0-0 1-0 1-0")
	spanned(t, "vfn f 0 4; li r1 5; li r2 6; li r1 7; ret r3", "1-0 1-3 2-2 0-4")
	spanned(t, "vfn f 1 3; li r0 5; ret r1", "0-1 0-2 1-0")
	spanned(t, "vfn f 0 3; li r1 5; label 0; print r1; li r2 1; jump 0", "1-0 1-5 4-4")
	spanned(t, "vfn f 0 3; li r1 5; jump 9; label 0; ret r1; label 9; li r2 7; jump 0", "1-0 1-7 6-6")
	spanned(t, "vfn f 0 3; call - k r2; call r1 k; ret r0", "0-3 2-2 0-1")
}

// gets tells of spans which spots they get: a number is a machine's register, one behind an s a slot, - none. Spans begin and end as they say: a function is made that turns and asks its registers so.
func gets(t *testing.T, spans []api.Span, want string) {
	t.Helper()
	v := spanning(t, spans)
	spots, slots := regs.Assign(v)
	var l []string
	most := 0
	for _, s := range spots {
		switch s.Kind {
		case api.SpotNone:
			l = append(l, "-")
		case api.SpotReg:
			l = append(l, fmt.Sprint(s.N))
		case api.SpotSlot:
			l = append(l, fmt.Sprint("s", s.N))
			most++
		}
	}
	if got := strings.Join(l, " "); got != want || slots != most {
		t.Errorf("%v: %s, %d; want %s", spans, got, slots, want)
	}
}

// spanning is a function whose registers have those spans, but for the last two, which it needs for itself: one that is never turned, to be returned. At each place there is an instruction alone, a call: so not more than eight may end there, and one begin.
func spanning(t *testing.T, spans []api.Span) api.Vfn {
	t.Helper()
	last := 0
	for _, s := range spans {
		last = max(last, s.To)
	}
	v := api.Vfn{Name: "f", Regs: len(spans), Code: make([]api.Vins, last)}
	for place := 1; place <= last; place++ {
		x := api.Vins{Op: api.PCall, D: -1, A: -1, B: -1, Name: "k"}
		for r, s := range spans {
			if s.From == place && s.To >= s.From {
				x.D = r
			}
			if s.To == place && s.From < place {
				x.Args = append(x.Args, r)
			}
		}
		v.Code[place-1] = x
	}
	v.Code = append(v.Code, api.Vins{Op: api.PLabel, D: -1, A: -1, B: -1}, api.Vins{Op: api.PJump, D: -1, A: -1, B: -1})
	if got := regs.Spans(v); !pick.May(v) || !slices.Equal(got, spans) {
		t.Fatalf("%v; want %v: %s", got, spans, pick.Print(v))
	}
	return v
}

// spansFrom are spans that begin one behind the other, from a place on, and end at those.
func spansFrom(from int, ends ...int) []api.Span {
	var out []api.Span
	for i, to := range ends {
		out = append(out, api.Span{From: from + i, To: to})
	}
	return out
}

// P16.3: as long as there is room.
func TestAssignRoom(t *testing.T) {
	gets(t, []api.Span{{From: 1, To: 0}}, "-")
	gets(t, []api.Span{{From: 1, To: 0}, {From: 1, To: 3}, {From: 1, To: 0}, {From: 2, To: 2}}, "- 0 - 1")
	gets(t, spansFrom(1, 12, 12, 12, 12, 12, 12, 12, 13, 13, 13, 13), "0 1 2 3 4 5 6 7 8 9 10")
	gets(t, []api.Span{{From: 3, To: 4}, {From: 2, To: 4}, {From: 1, To: 4}}, "2 1 0")
	gets(t, []api.Span{{From: 0, To: 3}, {From: 0, To: 3}, {From: 2, To: 3}}, "0 1 2")
}

// P16.3: what is given back: behind its To, not at it.
func TestAssignGiveBack(t *testing.T) {
	gets(t, spansFrom(1, 2, 3, 4, 5, 6), "0 1 0 1 0")
	gets(t, spansFrom(1, 1, 2, 3, 4), "0 0 0 0")
	gets(t, spansFrom(1, 9, 3, 9, 9, 9), "0 1 2 1 3")
	gets(t, spansFrom(1, 5, 3, 4, 9, 9, 9, 9), "0 1 2 1 2 0 3")
	gets(t, []api.Span{{From: 1, To: 2}, {From: 2, To: 3}, {From: 4, To: 4}, {From: 5, To: 5}}, "0 1 0 0")
}

// P16.3: without room: the one that is of use the longest goes without; of several the greatest; not for one that is of use as long.
func TestAssignSlots(t *testing.T) {
	gets(t, spansFrom(1, 30, 31, 32, 33, 34, 35, 36, 37, 38, 39, 40, 20), "0 1 2 3 4 5 6 7 8 9 s0 10")
	gets(t, spansFrom(1, 40, 31, 32, 33, 34, 35, 36, 37, 38, 39, 30, 20), "s0 1 2 3 4 5 6 7 8 9 10 0")
	gets(t, spansFrom(1, 30, 31, 32, 33, 34, 35, 36, 37, 38, 39, 40, 41), "0 1 2 3 4 5 6 7 8 9 10 s0")
	gets(t, spansFrom(1, 30, 31, 32, 33, 34, 35, 36, 37, 38, 39, 40, 40), "0 1 2 3 4 5 6 7 8 9 10 s0")
	gets(t, spansFrom(1, 30, 40, 32, 33, 40, 35, 36, 37, 38, 39, 34, 31), "0 1 2 3 s0 5 6 7 8 9 10 4")
	gets(t, spansFrom(1, 30, 40, 32, 33, 40, 35, 36, 37, 38, 39, 34, 31, 29, 28), "0 s1 2 3 s0 5 6 7 8 s2 10 4 1 9")
	gets(t, spansFrom(1, 50, 51, 52, 53, 54, 55, 56, 57, 58, 59, 60, 61, 62, 63), "0 1 2 3 4 5 6 7 8 9 10 s0 s1 s2")
	gets(t, spansFrom(1, 50, 51, 52, 53, 54, 55, 56, 57, 58, 59, 60, 30, 29, 28, 15, 17, 17), "0 1 2 3 4 5 s4 s3 s2 s1 s0 10 9 8 7 7 6")
}

// P16.4: up to the next multiple of 16.
func TestFrame(t *testing.T) {
	reg := func(n int) api.Spot { return api.Spot{Kind: api.SpotReg, N: n} }
	slot := func(n int) api.Spot { return api.Spot{Kind: api.SpotSlot, N: n} }
	for _, c := range []struct {
		spots       []api.Spot
		slots, want int
	}{
		{nil, 0, 16}, {[]api.Spot{}, 0, 16}, {[]api.Spot{{}, {}, {N: 5}}, 0, 16}, {[]api.Spot{reg(0), reg(1), reg(10)}, 0, 16}, {[]api.Spot{reg(0), reg(1), reg(2), reg(3)}, 0, 32},
		{[]api.Spot{reg(4), reg(4), reg(4), reg(4), {}, reg(4)}, 0, 16}, {[]api.Spot{reg(1), slot(0), slot(1)}, 2, 16}, {[]api.Spot{reg(1), slot(0), slot(1), slot(2)}, 3, 32}, {[]api.Spot{slot(0), slot(1), slot(2)}, 3, 16},
		{nil, 3, 16}, {nil, 4, 32}, {nil, 7, 32}, {nil, 8, 48}, {nil, 4096, 16400}, {[]api.Spot{slot(3), reg(3)}, 1, 16}, {[]api.Spot{slot(3), reg(3)}, 0, 16}, {[]api.Spot{reg(0), reg(1), reg(2), reg(3), reg(4), reg(5), reg(6), reg(7), reg(8), reg(9), reg(10)}, 4085, 16400},
	} {
		if got := regs.Frame(c.spots, c.slots); got != c.want {
			t.Errorf("%v, %d: %d; want %d", c.spots, c.slots, got, c.want)
		}
	}
}

// P16.1 to P16.4, P16.6: of random functions what is live, is of use, is given, as the chapter, said another way, has it.
func TestRandomSpots(t *testing.T) {
	m := newMaker(161)
	slotted, evicted := 0, 0
	for range rounds(1500) {
		v := m.Vfn(one(m, 2, 6, 12, 16, 24, 40))
		if got, want := regs.Live(v), lives(v); shown(got) != shown(want) {
			t.Fatalf("%s; want %s: %s", shown(got), shown(want), pick.Print(v))
		}
		spans := regs.Spans(v)
		if want := spansOf(v); !slices.Equal(spans, want) {
			t.Fatalf("%v; want %v: %s", spans, want, pick.Print(v))
		}
		spots, slots := regs.Assign(v)
		if want, count := assignedTo(spans); !slices.Equal(spots, want) || slots != count {
			t.Fatalf("%v, %d; want %v, %d: %v", spots, slots, want, count, spans)
		}
		if got, want := regs.Frame(spots, slots), frameOf(spots, slots); got != want {
			t.Fatalf("%d; want %d: %v", got, want, spots)
		}
		apart(t, v, spots)
		slotted += slots
		if slots > 0 && spots[len(spots)-1].Kind == api.SpotReg {
			evicted++
		}
	}
	if slotted < rounds(1500) || evicted < rounds(30) {
		t.Error(slotted, evicted)
	}
}

// apart tells that no two registers of use at one place have one spot (P16.6), and that each has one (P16.3), with the slots from 0 on.
func apart(t *testing.T, v api.Vfn, spots []api.Spot) {
	t.Helper()
	at := map[int]map[api.Spot]bool{}
	for r, l := range places(v) {
		if (len(l) > 0) == (spots[r] == api.Spot{}) {
			t.Fatalf("r%d: %v: %s", r, spots[r], pick.Print(v))
		}
		for _, place := range l {
			if at[place][spots[r]] {
				t.Fatalf("twice at %d: %v: %s", place, spots[r], pick.Print(v))
			}
			if at[place] == nil {
				at[place] = map[api.Spot]bool{}
			}
			at[place][spots[r]] = true
		}
	}
}
