package fold_test

import (
	"slices"
	"strconv"
	"strings"

	"brazier/api"
	"brazier/flow"
	"brazier/sample"
	"brazier/word"
)

// The chapter, said another way: what is known is a text, as shown shows it; it is found anew in rounds, of all that comes to each block at once.

// row is what is known of each register.
type row []string

// number is false of what varies.
func number(s string) (int32, bool) {
	n, err := strconv.Atoi(s)
	return int32(n), err == nil
}

// after is what is known behind an instruction.
func after(x api.Ins, ahead row) row {
	out := slices.Clone(ahead)
	if x.D >= 0 {
		out[x.D] = result(x, ahead)
	}
	return out
}

func result(x api.Ins, ahead row) string {
	switch x.Kind {
	case api.InNum:
		return word.Dec(x.Num)
	case api.InCopy:
		return ahead[x.A]
	case api.InUn:
		if a, ok := number(ahead[x.A]); ok {
			n, _ := word.Un(x.Op, a)
			return word.Dec(n)
		}
	case api.InBin:
		if (x.Op == api.Mul || x.Op == api.And) && (ahead[x.A] == "0" || ahead[x.B] == "0") {
			return "0"
		}
		a, okA := number(ahead[x.A])
		b, okB := number(ahead[x.B])
		if n, ok := word.Bin(x.Op, a, b); okA && okB && ok {
			return word.Dec(n)
		}
	}
	return "?"
}

// goesOn is the blocks to which what is known at a block's end comes.
func goesOn(b api.Block, end row) []int {
	switch {
	case b.Kind == api.BlJump:
		return []int{b.To}
	case b.Kind == api.BlReturn:
		return nil
	case end[b.A] == "?":
		return []int{b.To, b.Else}
	case end[b.A] == "0":
		return []int{b.Else}
	}
	return []int{b.To}
}

// known is what is known at each block's beginning, and whether anything comes there.
func known(f api.Fn) ([]row, []bool) {
	now, comes := make([]row, len(f.Blocks)), make([]bool, len(f.Blocks))
	for {
		coming := make([][]row, len(f.Blocks))
		coming[0] = []row{entry(f)}
		for n, b := range f.Blocks {
			if !comes[n] {
				continue
			}
			end := now[n]
			for _, x := range b.Ins {
				end = after(x, end)
			}
			for _, to := range goesOn(b, end) {
				coming[to] = append(coming[to], end)
			}
		}
		turned := false
		for n, l := range coming {
			all := together(f, l)
			turned = turned || comes[n] != (len(l) > 0) || !slices.Equal(now[n], all)
			now[n], comes[n] = all, len(l) > 0
		}
		if !turned {
			return now, comes
		}
	}
}

func entry(f api.Fn) row {
	out := slices.Repeat(row{"0"}, f.Regs)
	for r := range f.Params {
		out[r] = "?"
	}
	return out
}

// together is what is known of all that comes.
func together(f api.Fn, l []row) row {
	out := slices.Repeat(row{"-"}, f.Regs)
	for r := range out {
		for _, one := range l {
			if out[r] != "-" && out[r] != one[r] {
				out[r] = "?"
				break
			}
			out[r] = one[r]
		}
	}
	return out
}

// rows is known as shown shows it.
func rows(f api.Fn) string {
	l, _ := known(f)
	var lines []string
	for _, one := range l {
		lines = append(lines, strings.Join(one, " "))
	}
	return strings.Join(lines, "; ")
}

// reach is whether a block can be come to.
func reach(f api.Fn) []bool {
	seen := make([]bool, len(f.Blocks))
	var from func(n int)
	from = func(n int) {
		if seen[n] {
			return
		}
		seen[n] = true
		if b := f.Blocks[n]; b.Kind != api.BlReturn {
			from(b.To)
			if b.Kind == api.BlBranch {
				from(b.Else)
			}
		}
	}
	from(0)
	return seen
}

// trim leaves blocks out one by one, the last first.
func trim(f api.Fn) api.Fn {
	f = sample.CopyFn(f)
	for n, there := range slices.Backward(reach(f)) {
		if there {
			continue
		}
		f.Blocks = slices.Delete(f.Blocks, n, n+1)
		for i := range f.Blocks {
			for _, to := range []*int{&f.Blocks[i].To, &f.Blocks[i].Else} {
				if *to > n {
					*to--
				}
			}
		}
	}
	return f
}

// folded is Fn.
func folded(f api.Fn) api.Fn {
	f = sample.CopyFn(f)
	l, comes := known(f)
	for n := range f.Blocks {
		if !comes[n] {
			continue
		}
		b, at := &f.Blocks[n], l[n]
		for i, x := range b.Ins {
			next := after(x, at)
			b.Ins[i] = instead(x, at, next)
			at = next
		}
		if to := goesOn(*b, at); b.Kind == api.BlBranch && (len(to) == 1 || b.To == b.Else) {
			*b = api.Block{Ins: b.Ins, Kind: api.BlJump, To: to[0]}
		}
	}
	return trim(f)
}

// instead is what stands in an instruction's place. Which operators let be what beside which number, is a list of texts.
func instead(x api.Ins, ahead, behind row) api.Ins {
	if x.Kind != api.InCopy && x.Kind != api.InUn && x.Kind != api.InBin {
		return x
	}
	if n, ok := number(behind[x.D]); ok {
		return api.Ins{Kind: api.InNum, D: x.D, A: -1, B: -1, Num: n}
	}
	if x.Kind != api.InBin {
		return x
	}
	sign, a, b := word.Sign(x.Op), ahead[x.A], ahead[x.B]
	if n, ok := number(b); ok && n&31 == 0 && (sign == "<<" || sign == ">>") {
		b = "0"
	}
	list := func(s string) []string { return strings.Fields(s) }
	switch {
	case slices.Contains(list("+0 -0 |0 ^0 <<0 >>0 /1 *1 &-1"), sign+b):
		return api.Ins{Kind: api.InCopy, D: x.D, A: x.A, B: -1}
	case slices.Contains(list("0+ 0| 0^ 1* -1&"), a+sign):
		return api.Ins{Kind: api.InCopy, D: x.D, A: x.B, B: -1}
	}
	return x
}

// watched is a program that prints, at each block's beginning, a 1 for each register that holds the number that is known of it, a 0 for one that doesn't, and where nothing comes; what it printed else it doesn't.
func watched(m api.Mid, knows func(api.Fn) [][]api.Known) api.Mid {
	m = sample.CopyMid(m)
	for i := range m.Fns {
		f := &m.Fns[i]
		own := f.Regs
		say := api.Ins{Kind: api.InPrint, D: -1, A: own, B: -1}
		num := func(n int32) api.Ins { return api.Ins{Kind: api.InNum, D: own, A: -1, B: -1, Num: n} }
		for n, row := range knows(*f) {
			var tells []api.Ins
			for r, k := range row {
				switch k.Kind {
				case 0:
					tells = append(tells, num(0), say)
				case 1:
					tells = append(tells, num(k.Num), api.Ins{Kind: api.InBin, Op: api.Eq, D: own, A: r, B: own}, say)
				}
			}
			b := &f.Blocks[n]
			b.Ins = slices.DeleteFunc(b.Ins, func(x api.Ins) bool { return x.Kind == api.InPrint })
			b.Ins = append(tells, b.Ins...)
		}
		f.Regs++
	}
	if !flow.May(m) {
		panic("what is watched may not be")
	}
	return m
}
