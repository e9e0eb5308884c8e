package sample

import (
	"slices"

	"brazier/api"
	"brazier/word"
)

// A Vprog is a program of functions between virtual registers.
type Vprog struct {
	Globals []api.Global
	Fns     []api.Vfn
}

// VprogOf is one of functions of a text (see Vfns), with the globals of Mid.
func VprogOf(text string) Vprog { return Vprog{Mid("").Globals, Vfns(text)} }

// A vrun is a run of one, as chapter 15 tells it.
type vrun struct {
	fns   map[string]api.Vfn
	words map[string][]int32
	input []int32
	fuel  int
	told  api.Result
}

// A vend is how a run ends.
type vend int

// Run is how the program's run ends.
func (p Vprog) Run(input []int32, fuel int) (told api.Result) {
	r := &vrun{fns: map[string]api.Vfn{}, words: map[string][]int32{}, input: input, fuel: fuel}
	for _, g := range p.Globals {
		r.words[g.Name] = make([]int32, max(g.Size, 1))
	}
	for _, f := range p.Fns {
		r.fns[f.Name] = f
	}
	defer func() {
		switch end := recover().(type) {
		case vend:
			r.told.End = int(end)
			told = r.told
		case nil:
		default:
			panic(end)
		}
	}()
	r.told.Value = r.call("main", 1, nil)
	r.told.End = api.EndDone
	return r.told
}

func (r *vrun) call(name string, depth int, args []int32) int32 {
	if depth > api.MaxCalls {
		panic(vend(api.EndDeep))
	}
	f := r.fns[name]
	regs := make([]int32, f.Regs)
	copy(regs, args)
	for at := 0; ; at++ {
		x := f.Code[at]
		if x.Op == api.PLabel {
			continue
		}
		if r.told.Steps >= r.fuel {
			panic(vend(api.EndOpen))
		}
		r.told.Steps++
		a, b := asked(regs, x.A), asked(regs, x.B)
		switch {
		case x.Op == api.PRet:
			return a
		case x.Op == api.PJump, x.Op == api.PBnez && a != 0, x.Op == api.PBeqz && a == 0:
			at = slices.IndexFunc(f.Code, func(y api.Vins) bool { return y.Op == api.PLabel && y.Num == x.Num })
		case x.Op == api.PCall:
			var values []int32
			for _, n := range x.Args {
				values = append(values, regs[n])
			}
			if value := r.call(x.Name, depth+1, values); x.D >= 0 {
				regs[x.D] = value
			}
		case x.Op == api.PSet, x.Op == api.PPut:
			*r.element(x.Name, a) = b
		case x.Op == api.PPrint:
			r.told.Trace = append(r.told.Trace, a)
		case x.D >= 0:
			regs[x.D] = r.turned(x, a, b)
		}
	}
}

func asked(regs []int32, n int) int32 {
	if n < 0 {
		return 0
	}
	return regs[n]
}

// element is an array's word, or a word: A isn't had then, and counts as 0.
func (r *vrun) element(name string, index int32) *int32 {
	words := r.words[name]
	if index < 0 || int(index) >= len(words) {
		panic(vend(api.EndIndex))
	}
	return &words[index]
}

// turned is what D is turned into.
func (r *vrun) turned(x api.Vins, a, b int32) int32 {
	switch x.Op {
	case api.PLi:
		return x.Num
	case api.PMv:
		return a
	case api.PGet, api.PIdx:
		return *r.element(x.Name, a)
	case api.PRead:
		if r.told.Reads == len(r.input) {
			return 0
		}
		r.told.Reads++
		return r.input[r.told.Reads-1]
	}
	if x.Op <= api.Srai {
		b = x.Num
	}
	n, ok := reckonedOf(x.Op, a, b)
	if !ok {
		panic(vend(api.EndDiv))
	}
	return n
}

// reckonedOf is what a machine's instruction makes of two words.
func reckonedOf(op int, a, b int32) (int32, bool) {
	switch op {
	case api.Sltiu, api.Sltus:
		if uint32(a) < uint32(b) {
			return 1, true
		}
		return 0, true
	case api.Srli, api.Srls:
		return int32(uint32(a) >> (uint32(b) % 32)), true
	}
	operators := map[int]int{
		api.Addi: api.Add, api.Slti: api.Lt, api.Xori: api.Xor, api.Ori: api.Or, api.Andi: api.And, api.Slli: api.Shl, api.Srai: api.Shr,
		api.Adds: api.Add, api.Subs: api.Sub, api.Slls: api.Shl, api.Slts: api.Lt, api.Xors: api.Xor, api.Sras: api.Shr, api.Ors: api.Or,
		api.Ands: api.And, api.Muls: api.Mul, api.Divs: api.Div, api.Rems: api.Rem,
	}
	return word.Bin(operators[op], a, b)
}
