package regs

import (
	"slices"

	"brazier/api"
	"brazier/sets"
)

// asked is the registers that an instruction asks: a number below 0 is never in a set.
func asked(x api.Vins) *sets.Bits {
	out := sets.Of(x.Args...)
	out.Put(x.A)
	out.Put(x.B)
	return out
}

// onTo is, of each instruction, those that may come next.
func onTo(code []api.Vins) [][]int {
	places := map[int32]int{}
	for i, x := range code {
		if x.Op == api.PLabel {
			places[x.Num] = i
		}
	}
	out := make([][]int, len(code))
	for i, x := range code {
		if i+1 < len(code) && x.Op != api.PRet && x.Op != api.PJump {
			out[i] = append(out[i], i+1)
		}
		if to, there := places[x.Num]; there && (x.Op == api.PJump || x.Op == api.PBnez || x.Op == api.PBeqz) {
			out[i] = append(out[i], to)
		}
	}
	return out
}

// turnedRound is, of each number, those in whose lists it is.
func turnedRound(lists [][]int) [][]int {
	out := make([][]int, len(lists))
	for i, l := range lists {
		for _, n := range l {
			out[n] = append(out[n], i)
		}
	}
	return out
}

// live is what is live ahead of each instruction. Sets are joined till nothing is turned: they only grow, so these are the least. One that has grown turns those ahead of it.
func live(v api.Vfn) []*sets.Bits {
	next := onTo(v.Code)
	ahead := turnedRound(next)
	at := make([]*sets.Bits, len(v.Code))
	var todo sets.Queue[int]
	for i, x := range slices.Backward(v.Code) {
		at[i] = asked(x)
		todo.Push(i)
	}
	for i, more := todo.Pop(); more; i, more = todo.Pop() {
		behind := sets.Of()
		for _, n := range next[i] {
			behind.Join(at[n])
		}
		behind.Drop(v.Code[i].D)
		if at[i].Join(behind) {
			for _, n := range ahead[i] {
				todo.Push(n)
			}
		}
	}
	return at
}
