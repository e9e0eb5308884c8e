package pick

import (
	"strings"

	"brazier/api"
	"brazier/word"
)

// Print: P15.4.
func Print(v api.Vfn) string {
	var out strings.Builder
	line := func(words ...string) {
		out.WriteString(strings.Join(words, " "))
		out.WriteByte('\n')
	}
	line("vfn", v.Name, dec(v.Params), dec(v.Regs))
	for _, x := range v.Code {
		out.WriteByte('\t')
		line(insWords(x)...)
	}
	return out.String()
}

// dec prints the word that is n modulo 2^32.
func dec(n int) string { return word.Dec(int32(n)) }

func insWords(x api.Vins) []string {
	words := []string{dec(x.Op), dec(x.D), dec(x.A), dec(x.B), word.Dec(x.Num)}
	if x.Name != "" {
		words = append(words, x.Name)
	}
	for _, n := range x.Args {
		words = append(words, dec(n))
	}
	return words
}
