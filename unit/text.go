package unit

import (
	"strings"

	"brazier/api"
	"brazier/asm"
	"brazier/word"
)

// head is a unit's first word.
const head = ".unit"

// What stands between words, and behind a line.
const (
	blank   = " "
	lineEnd = "\n"
)

// read is the unit that is printed as s, if one is. A line that can't be read is a zero one, which may not be.
func read(s string) api.Unit {
	first, rest, _ := strings.Cut(s, lineEnd)
	u := readHead(strings.Split(first, blank))
	for text := range strings.Lines(rest) {
		l, _ := asm.ParseLine(strings.TrimSuffix(text, lineEnd))
		u.Lines = append(u.Lines, l)
	}
	return u
}

func readHead(words []string) api.Unit {
	if len(words) != 3 {
		return api.Unit{}
	}
	frame, _ := word.Parse(words[2])
	return api.Unit{Name: words[1], Frame: int(frame)}
}
