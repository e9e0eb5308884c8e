package unit

import (
	"strings"

	"brazier/api"
	"brazier/blocks"
	"brazier/lexer"
)

// How many bytes of stack a unit takes: at least, at most, and by how many more.
const (
	leastFrame = 16
	mostFrame  = 1 << 18
	evenFrame  = 16
)

func mayFrame(n int) bool { return n >= leastFrame && n <= mostFrame && n%evenFrame == 0 }

// mayFirst is whether the function's own place is ahead of all.
func mayFirst(u api.Unit) bool {
	return len(u.Lines) > 0 && u.Lines[0] == api.Line{Kind: api.LineLabel, Sym: u.Name}
}

// mayPlaces is whether the places behind the first are the unit's own, none there twice, and each jump goes to one of them, or to a function.
func mayPlaces(u api.Unit) bool {
	own := map[string]struct{}{}
	for _, l := range u.Lines[1:] {
		if l.Kind != api.LineLabel {
			continue
		}
		if _, twice := own[l.Sym]; twice || !strings.HasPrefix(l.Sym, "."+u.Name+".") {
			return false
		}
		own[l.Sym] = struct{}{}
	}
	return blocks.Every(u.Lines, func(l api.Line) bool {
		_, there := own[l.Sym]
		return l.Op != api.Jal || there || lexer.IsName(l.Sym)
	})
}
