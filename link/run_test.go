package link_test

import (
	"slices"
	"strings"
	"testing"

	"brazier/api"
	"brazier/link"
	"brazier/riscv"
	"brazier/syntax"
	"brazier/walk"
)

// does tells that the machine ends as the program does, with the same trace, in at most so many steps, or comes as far; it answers how the program ends.
func does(t *testing.T, p api.Prog, m *riscv.Image, input []int32, fuel int) api.Result {
	t.Helper()
	want := walk.Run(p, input, fuel)
	if want.End == api.EndDone || want.End == api.EndOpen {
		if got := m.Run(input, 700*want.Steps+3000); !walk.Begins(got, want) {
			t.Fatalf("with %d, %d: %+v; want %+v\n%.2000s", input, fuel, got, want, syntax.Print(p))
		}
	}
	return want
}

// done tells that a text's program ends with that value, and prints that.
func done(t *testing.T, text string, input []int32, value int32, trace ...int32) {
	t.Helper()
	m := loaded(t, clean(t, text))
	p, _ := link.Check(text)
	got := does(t, p, m, input, 2000000)
	if want := (api.Result{End: api.EndDone, Value: value, Trace: trace, Reads: got.Reads}); !walk.Same(got, want) {
		t.Errorf("%.200s: %+v; want %+v", text, got, want)
	}
}

// P21.4: what programs do.
func TestPrograms(t *testing.T) {
	done(t, "int main() { }", nil, 0)
	done(t, "int main() { print 1; }", nil, 0, 1)
	done(t, "int main() { return read() - read(); }", []int32{5, 7, 9}, -2)
	done(t, "int f(int n) { if (n < 2) return n; return f(n - 1) + f(n - 2); } int main() { print f(15); return read() / 2; }", []int32{9}, 4, 610)
	done(t, `int composite[4096];
int main() {
	int i = 2;
	int count = 0;
	while (i < 4096) {
		if (!composite[i]) {
			count = count + 1;
			int j = i + i;
			while (j < 4096) { composite[j] = 1; j = j + i; }
			if (count > 560) print i;
		}
		i = i + 1;
	}
	return count;
}`, nil, 564, 4073, 4079, 4091, 4093)
	done(t, `int a[64]; int count;
int put(int n) { int at = count; while (at > 0 && a[at - 1] > n) { a[at] = a[at - 1]; at = at - 1; } a[at] = n; count = count + 1; }
int main() { int n = read(); while (n) { put(n); n = read(); } int i = 0; while (i < count) { print a[i]; i = i + 1; } return i; }`, []int32{5, -3, 2147483647, 5, -2147483648, 1, 0, 8}, 6, -2147483648, -3, 1, 5, 5, 2147483647)
	done(t, "int a[4096]; int b[4096]; int c[4096]; int d[4095]; int last; int main() { last = 7; d[4094] = 8; a[0] = 9; c[4095] = 10; b[0] = 11; print a[0] + b[0] * 100; print c[4095]; print d[4094]; print last; print a[4095] + b[4095] + c[0] + d[0]; }", nil, 0, 1109, 10, 8, 7, 0)
	done(t, "int deep(int n) { if (n == 31) return 1; return deep(n + 1) + n; } int main() { return deep(1); }", nil, 466)
}

// P21.4: a program that doesn't end goes on with the same trace.
func TestEndless(t *testing.T) {
	for _, text := range []string{
		"int main() { while (1) ; }",
		"int main() { int n; while (1) { print n; n = n + 1; } }",
		"int main() { while (!read()) print read(); }",
		"int g; int f(int n) { g = g * 5 + n; return g >> 3; } int main() { int i = 1; while (i || !i) { i = f(i); if (i & 1) continue; print i; } }",
		"int a[7]; int main() { int i; while (1) { a[i] = a[(i + 1) % 7] + a[(i + 3) % 7] + 1; print a[i]; i = (i + 1) % 7; } }",
		"int f(int n) { while (n > 3) { print n; n = n - 3; } return n; } int main() { while (1) print f(read() + 20) || f(40); }",
	} {
		m := loaded(t, clean(t, text))
		p, _ := link.Check(text)
		input := []int32{0, 5, 0, 6, 0, 7}
		for _, fuel := range []int{0, 1, 10, 100, 1000, 20000} {
			r := does(t, p, m, input, fuel)
			own := m.Run(input, fuel)
			n := min(len(r.Trace), len(own.Trace))
			if r.End != api.EndOpen || own.End != api.EndOpen || !slices.Equal(r.Trace[:n], own.Trace[:n]) {
				t.Errorf("%s with %d: %+v; want %+v", text, fuel, own, r)
			}
		}
		if r := m.Run(input, 100000); len(r.Trace) < 100 && strings.Contains(text, "print") && !strings.Contains(text, "!read") {
			t.Errorf("%s: %+v", text, r)
		}
	}
}

// P21.4: random programs, cut off at any step.
func TestRandomPrograms(t *testing.T) {
	m := newMaker(215)
	found := map[int]int{}
	for range rounds(2500) {
		text, input := m.Text(m.Prog()), m.Input()
		own := loaded(t, clean(t, text))
		p, _ := link.Check(text)
		for _, fuel := range []int{m.Intn(30), m.Intn(300), 3000} {
			found[does(t, p, own, input, fuel).End]++
		}
	}
	if found[api.EndDone] < rounds(1000) || found[api.EndOpen] < rounds(1000) {
		t.Error(found)
	}
}
