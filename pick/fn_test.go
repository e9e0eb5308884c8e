package pick_test

import (
	"strings"
	"testing"

	"brazier/api"
	"brazier/pick"
	"brazier/word"
)

// P15.3: the chapter's examples.
func TestExamples(t *testing.T) {
	picks(t, "r2 = num 5; r1 = r0 + r2", "li r2 5; addi r1 r0 5")
	picks(t, "r1 = r0 <= r2", "slt r1 r2 r0; xori r1 r1 1")
}

// P15.3: what isn't an operator.
func TestOthers(t *testing.T) {
	picks(t, "r1 = num 7", "li r1 7")
	picks(t, "r1 = num -2147483648", "li r1 -2147483648")
	picks(t, "r1 = r2", "mv r1 r2")
	picks(t, "r1 = r1", "mv r1 r1")
	picks(t, "r1 = -r2", "sub r1 - r2")
	picks(t, "r1 = !r2", "sltiu r1 r2 1")
	picks(t, "r1 = ~r2", "xori r1 r2 -1")
	picks(t, "r1 = g", "get r1 g")
	picks(t, "r1 = a[r2]", "idx r1 a r2")
	picks(t, "g = r2", "set g r2")
	picks(t, "a[r1] = r2", "put a r1 r2")
	picks(t, "a[r0] = r0", "put a r0 r0")
	picks(t, "r1 = k(r2, r0, r2)", "call r1 k r2 r0 r2")
	picks(t, "k(r3)", "call - k r3")
	picks(t, "r0 = k()", "call r0 k")
	picks(t, "r1 = read", "read r1")
	picks(t, "print r1", "print r1")
}

// P15.3: numbers that are known don't count where there is no operator of two.
func TestKnownElsewhere(t *testing.T) {
	const head, num = "r0 = num 3; r1 = num 0; r2 = num 5; ", "li r0 3; li r1 0; li r2 5; "
	for ins, want := range map[string]string{
		"r3 = r2": "mv r3 r2", "r3 = -r2": "sub r3 - r2", "r3 = !r1": "sltiu r3 r1 1", "r3 = ~r2": "xori r3 r2 -1", "g = r2": "set g r2", "r3 = a[r1]": "idx r3 a r1", "a[r1] = r2": "put a r1 r2", "print r2": "print r2", "k(r1, r2)": "call - k r1 r2", "r3 = r0 * r2": "mul r3 r0 r2", "r3 = r0 / r2": "div r3 r0 r2", "r3 = r0 % r2": "rem r3 r0 r2",
		"r3 = r0 > r2": "slt r3 r2 r0", "r3 = r0 <= r2": "slt r3 r2 r0; xori r3 r3 1", "r3 = r0 >= r2": "slt r3 r0 r2; xori r3 r3 1", "r3 = r0 == r2": "sub r3 r0 r2; sltiu r3 r3 1", "r3 = r0 != r2": "sub r3 r0 r2; sltu r3 - r3",
	} {
		picks(t, head+ins, num+want)
	}
}

// P15.3: operators between registers of which nothing is known.
func TestByRegisters(t *testing.T) {
	for sign, want := range map[string]string{
		"+": "add D A B", "-": "sub D A B", "*": "mul D A B", "/": "div D A B", "%": "rem D A B", "<<": "sll D A B", ">>": "sra D A B", "&": "and D A B", "|": "or D A B", "^": "xor D A B",
		"<": "slt D A B", ">": "slt D B A", "<=": "slt D B A; xori D D 1", ">=": "slt D A B; xori D D 1", "==": "sub D A B; sltiu D D 1", "!=": "sub D A B; sltu D - D",
	} {
		for _, regs := range []string{"r2 r0 r1", "r2 r2 r1", "r2 r1 r2", "r2 r1 r1", "r2 r2 r2"} {
			l := strings.Fields(regs)
			code := strings.NewReplacer("D", l[0], "A", l[1], "B", l[2]).Replace(want)
			picks(t, l[0]+" = "+l[1]+" "+sign+" "+l[2], code)
		}
	}
}

// numbered tells what is picked with a number known: of B (r1), then of A (r0).
func numbered(t *testing.T, sign string, n int32, ofB, ofA string) {
	t.Helper()
	num := word.Dec(n)
	picks(t, "r1 = num "+num+"; r2 = r0 "+sign+" r1", "li r1 "+num+"; "+ofB)
	picks(t, "r0 = num "+num+"; r2 = r0 "+sign+" r1", "li r0 "+num+"; "+ofA)
}

// P15.3: with a number of 12 bits, and with one beside.
func TestByNumber(t *testing.T) {
	const least, most = -2048, 2047
	for sign, name := range map[string]string{"+": "add", "&": "and", "|": "or", "^": "xor"} {
		long := name + " r2 r0 r1"
		for _, n := range edges() {
			num := word.Dec(n)
			if n >= least && n <= most {
				numbered(t, sign, n, name+"i r2 r0 "+num, name+"i r2 r1 "+num)
			} else {
				numbered(t, sign, n, long, long)
			}
		}
	}
	for _, n := range edges() {
		if n >= least && n <= most {
			numbered(t, "<", n, "slti r2 r0 "+word.Dec(n), "slt r2 r0 r1")
		} else {
			numbered(t, "<", n, "slt r2 r0 r1", "slt r2 r0 r1")
		}
		if n >= -most && n <= -least {
			numbered(t, "-", n, "addi r2 r0 "+word.Dec(-n), "sub r2 r0 r1")
		} else {
			numbered(t, "-", n, "sub r2 r0 r1", "sub r2 r0 r1")
		}
	}
}

// P15.3: shifts by any number, and what is held against 0.
func TestByNumberElse(t *testing.T) {
	for n, by := range map[int32]string{0: "0", 1: "1", 31: "31", 32: "0", 33: "1", -1: "31", -32: "0", -31: "1", 2047: "31", 2048: "0", 5000: "8", -2147483648: "0", 2147483647: "31"} {
		numbered(t, "<<", n, "slli r2 r0 "+by, "sll r2 r0 r1")
		numbered(t, ">>", n, "srai r2 r0 "+by, "sra r2 r0 r1")
	}
	const equal, apart = "sub r2 r0 r1; sltiu r2 r2 1", "sub r2 r0 r1; sltu r2 - r2"
	numbered(t, "==", 0, "sltiu r2 r0 1", equal)
	numbered(t, "!=", 0, "sltu r2 - r0", apart)
	for _, n := range edges()[1:] {
		numbered(t, "==", n, equal, equal)
		numbered(t, "!=", n, apart, apart)
	}
}

// P15.3: with both known B's is asked first, then, if that doesn't fit, A's.
func TestBothKnown(t *testing.T) {
	both := func(a, b, sign, want string) {
		t.Helper()
		picks(t, "r0 = num "+a+"; r1 = num "+b+"; r2 = r0 "+sign+" r1", "li r0 "+a+"; li r1 "+b+"; "+want)
	}
	for sign, name := range map[string]string{"+": "add", "&": "and", "|": "or", "^": "xor"} {
		both("3", "4", sign, name+"i r2 r0 4")
		both("3", "2048", sign, name+"i r2 r1 3")
		both("2048", "3", sign, name+"i r2 r0 3")
		both("2048", "4096", sign, name+" r2 r0 r1")
		both("0", "-2049", sign, name+"i r2 r1 0")
	}
	both("3", "4", "-", "addi r2 r0 -4")
	both("3", "2049", "-", "sub r2 r0 r1")
	both("3", "4", "<", "slti r2 r0 4")
	both("3", "4096", "<", "slt r2 r0 r1")
	both("0", "1", "==", "sub r2 r0 r1; sltiu r2 r2 1")
	both("3", "0", "==", "sltiu r2 r0 1")
	picks(t, "r1 = num 5; r1 = r1 + r1", "li r1 5; addi r1 r1 5")
	picks(t, "r1 = num 5; r1 = r1 == r1", "li r1 5; sub r1 r1 r1; sltiu r1 r1 1")
}

// P15.3: from where to where a number is known.
func TestKnown(t *testing.T) {
	const use = "; r2 = r0 + r1"
	for _, ins := range []string{"r1 = r3", "r1 = -r3", "r1 = r0 + r3", "r1 = g", "r1 = a[r3]", "r1 = k(r3)", "r1 = k()", "r1 = read", "r1 = r1"} {
		got := pick.Fn(fn(t, "fn f 2 6; block 0; r1 = num 5; "+ins+use+"; return r5"))
		if last := got.Code[len(got.Code)-2]; last.Op != api.Adds {
			t.Errorf("%s: %+v", ins, last)
		}
	}
	for _, ins := range []string{"r3 = r1", "r3 = num 8", "g = r1", "a[r1] = r1", "k(r1)", "r3 = k(r1)", "print r1", "r0 = read", "r0 = r1"} {
		got := pick.Fn(fn(t, "fn f 2 6; block 0; r1 = num 5; "+ins+use+"; return r5"))
		if last := got.Code[len(got.Code)-2]; last.Op != api.Addi || last.A != 0 || last.Num != 5 {
			t.Errorf("%s: %+v", ins, last)
		}
	}
	picks(t, "r1 = num 5; r1 = num 6"+use, "li r1 5; li r1 6; addi r2 r0 6")
	picks(t, "r1 = num 5; r1 = read; r1 = num 6"+use, "li r1 5; read r1; li r1 6; addi r2 r0 6")
	picks(t, "r1 = num 5; r1 = num 5000"+use, "li r1 5; li r1 5000; add r2 r0 r1")
	picks(t, "r1 = num 5; r1 = r0 + r1"+use, "li r1 5; addi r1 r0 5; add r2 r0 r1")
	picks(t, "r2 = r0 + r1; r1 = num 5", "add r2 r0 r1; li r1 5")
	becomes(t, "fn f 2 6; block 0; r1 = num 5; jump 1; block 1"+use+"; return r5", "vfn f 2 6; label 0; li r1 5; label 1; add r2 r0 r1; ret r5")
	becomes(t, "fn f 2 6; block 0; r1 = num 5"+use+"; jump 0", "vfn f 2 6; label 0; li r1 5; addi r2 r0 5; jump 0")
}

// P15.3: ends of blocks, with what is next and what isn't.
func TestEnds(t *testing.T) {
	const rest = "; block 1; return r0; block 2; return r1"
	const picked = "; label 1; ret r0; label 2; ret r1"
	for end, want := range map[string]string{
		"jump 1": "", "jump 0": "; jump 0", "jump 2": "; jump 2", "return r1": "; ret r1",
		"branch r1 1 2": "; beqz r1 2", "branch r1 1 0": "; beqz r1 0", "branch r1 1 1": "; beqz r1 1",
		"branch r1 2 1": "; bnez r1 2", "branch r1 0 1": "; bnez r1 0", "branch r1 2 0": "; bnez r1 2; jump 0", "branch r1 2 2": "; bnez r1 2; jump 2", "branch r1 0 0": "; bnez r1 0; jump 0",
	} {
		becomes(t, "fn f 1 2; block 0; "+end+rest, "vfn f 1 2; label 0"+want+picked)
	}
	becomes(t, "fn f 0 1; block 0; branch r0 0 0", "vfn f 0 1; label 0; bnez r0 0; jump 0")
	becomes(t, "fn f 0 0; block 0; jump 0", "vfn f 0 0; label 0; jump 0")
	becomes(t, "fn f 0 1; block 0; jump 1; block 1; jump 2; block 2; branch r0 1 0", "vfn f 0 1; label 0; label 1; label 2; bnez r0 1; jump 0")
	becomes(t, "fn long_name 8 20; block 0; return r19", "vfn long_name 8 20; label 0; ret r19")
	becomes(t, "fn f 0 1; block 0; return r0; block 1; jump 0", "vfn f 0 1; label 0; ret r0; label 1; jump 0")
}
