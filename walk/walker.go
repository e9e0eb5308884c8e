package walk

import "brazier/api"

// A walker does what a program does.
type walker struct {
	funcs map[string]api.Func
	words map[string][]int32 // a global's: one, if it isn't an array
	input []int32
	fuel  int
	calls int        // those that are within one another
	told  api.Result // what there is to tell of the run so far
}

// lay makes a program's functions and words ready.
func (w *walker) lay(p api.Prog) {
	w.funcs = map[string]api.Func{}
	for _, f := range p.Funcs {
		w.funcs[f.Name] = f
	}
	w.words = map[string][]int32{}
	for _, g := range p.Globals {
		w.words[g.Name] = make([]int32, max(g.Size, 1))
	}
}

// step is taken by each statement and each expression, ahead of all that it does.
func (w *walker) step() {
	if w.told.Steps >= w.fuel {
		panic(ending(api.EndOpen))
	}
	w.told.Steps++
}

func (w *walker) call(name string, args []int32) int32 {
	if w.calls == api.MaxCalls {
		panic(ending(api.EndDeep))
	}
	w.calls++
	f := w.funcs[name]
	c := call{walker: w}
	for i, param := range f.Params {
		c.declare(param, args[i])
	}
	c.stmts(f.Body)
	w.calls--
	return c.value
}

// read is the next word of the input: behind the last one there is always a 0 to be had.
func (w *walker) read() int32 {
	at := w.told.Reads
	if at == len(w.input) {
		return 0
	}
	w.told.Reads++
	return w.input[at]
}

func (w *walker) print(n int32) {
	w.told.Trace = append(w.told.Trace, n)
}

// element is an array's word of that index.
func (w *walker) element(name string, index int32) *int32 {
	array := w.words[name]
	if index < 0 || int(index) >= len(array) {
		panic(ending(api.EndIndex))
	}
	return &array[index]
}
