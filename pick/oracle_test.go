package pick_test

import (
	"slices"
	"strings"

	"brazier/api"
	"brazier/flow"
	"brazier/sample"
	"brazier/word"
)

// The chapter, said another way: a function as layer 11 prints it, line by line, is rewritten to a text as package sample reads it; what is chosen is the first of a list of patterns that goes.

// A pattern is lines in which D, A and B stand for registers, n for the number that is known, -n for the one below 0.
type pattern struct {
	asks  string // of which register a number must be known, if of any
	least int64
	most  int64
	lines string
}

func within12(asks, lines string) pattern { return pattern{asks, -2048, 2047, lines} }

// patterns is what there is for a sign, the first ahead.
func patterns(sign string) []pattern {
	turnable := func(name string) []pattern {
		return []pattern{within12("B", name+"i D A n"), within12("A", name+"i D B n"), {lines: name + " D A B"}}
	}
	switch sign {
	case "+":
		return turnable("add")
	case "&":
		return turnable("and")
	case "|":
		return turnable("or")
	case "^":
		return turnable("xor")
	case "-":
		return []pattern{{"B", -2047, 2048, "addi D A -n"}, {lines: "sub D A B"}}
	case "<":
		return []pattern{within12("B", "slti D A n"), {lines: "slt D A B"}}
	case "<<":
		return []pattern{{"B", -1 << 31, 1<<31 - 1, "slli D A n%32"}, {lines: "sll D A B"}}
	case ">>":
		return []pattern{{"B", -1 << 31, 1<<31 - 1, "srai D A n%32"}, {lines: "sra D A B"}}
	case "==":
		return []pattern{{"B", 0, 0, "sltiu D A 1"}, {lines: "sub D A B;sltiu D D 1"}}
	case "!=":
		return []pattern{{"B", 0, 0, "sltu D - A"}, {lines: "sub D A B;sltu D - D"}}
	}
	return []pattern{{lines: map[string]string{"*": "mul D A B", "/": "div D A B", "%": "rem D A B", ">": "slt D B A", "<=": "slt D B A;xori D D 1", ">=": "slt D A B;xori D D 1"}[sign]}}
}

// rewritten is Fn.
func rewritten(f api.Fn) api.Vfn {
	lines := strings.Split(strings.TrimSuffix(flow.Print(f), "\n"), "\n")
	out := []string{"v" + lines[0]}
	var nums map[string]int64
	for i, line := range lines[1:] {
		words := strings.Fields(strings.NewReplacer("[", " [", "(", " ( ", ",", "", ")", "", "]", "").Replace(line))
		next := "none" // the block that is begun behind this line
		if i+2 < len(lines) {
			next, _ = strings.CutPrefix(lines[i+2], "block ")
		}
		switch words[0] {
		case "block":
			nums = map[string]int64{}
			out = append(out, "label "+words[1])
		case "jump", "branch", "return":
			out = append(out, rewrittenEnd(words, next)...)
		default:
			out = append(out, strings.Split(rewrittenIns(words, nums), ";")...)
			delete(nums, words[0])
			if slices.Contains(words, "num") {
				n, _ := word.Parse(words[3])
				nums[words[0]] = int64(n)
			}
		}
	}
	return sample.Vfns(strings.Join(out, "\n"))[0]
}

func rewrittenEnd(words []string, next string) []string {
	switch {
	case words[0] == "return":
		return []string{"ret " + words[1]}
	case words[0] == "jump" && words[1] == next:
		return nil
	case words[0] == "jump":
		return []string{"jump " + words[1]}
	case words[2] == next:
		return []string{"beqz " + words[1] + " " + words[3]}
	}
	return append([]string{"bnez " + words[1] + " " + words[2]}, rewrittenEnd([]string{"jump", words[3]}, next)...)
}

// rewrittenIns: words are a printed instruction's, [ is in one word with the register behind it, ( is a word.
func rewrittenIns(words []string, nums map[string]int64) string {
	if words[0] == "print" {
		return "print " + words[1]
	}
	at := slices.Index(words, "=")
	if at < 0 {
		return "call - " + words[0] + " " + strings.Join(words[2:], " ")
	}
	left, right := words[:at], words[at+1:]
	register := func(s string) bool { return s[0] == 'r' && s != "read" }
	d := left[0]
	switch {
	case len(left) == 2:
		return "put " + d + " " + left[1][1:] + " " + right[0]
	case !register(d):
		return "set " + d + " " + right[0]
	case len(right) == 3 && register(right[0]):
		return chosen(d, right[0], right[1], right[2], nums)
	case right[0] == "num":
		return "li " + d + " " + right[1]
	case right[0] == "read":
		return "read " + d
	case len(right) > 1 && right[1] == "(":
		return "call " + d + " " + right[0] + " " + strings.Join(right[2:], " ")
	case len(right) == 2:
		return "idx " + d + " " + right[0] + " " + right[1][1:]
	case register(right[0]):
		return "mv " + d + " " + right[0]
	}
	rest := right[0][1:]
	switch right[0][0] {
	case '-':
		return "sub " + d + " - " + rest
	case '!':
		return "sltiu " + d + " " + rest + " 1"
	case '~':
		return "xori " + d + " " + rest + " -1"
	}
	return "get " + d + " " + right[0]
}

// chosen is the lines of the first pattern that goes.
func chosen(d, a, sign, b string, nums map[string]int64) string {
	for _, p := range patterns(sign) {
		n, known := nums[map[string]string{"A": a, "B": b}[p.asks]]
		if p.asks != "" && (!known || n < p.least || n > p.most) {
			continue
		}
		dec := func(n int64) string { return word.Dec(int32(n)) }
		return strings.NewReplacer(" n%32", " "+dec((n%32+32)%32), " n", " "+dec(n), "-n", dec(-n), "D", d, "A", a, "B", b).Replace(p.lines)
	}
	return "none"
}
