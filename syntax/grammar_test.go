package syntax

import (
	"math/rand"
	"slices"
	"strings"
	"testing"

	"brazier/api"
	"brazier/lexer"
)

// grammar is P8.1, a rule a line: what stands alone ahead of a : is made of what stands behind it, name and number are any of these. Levels of operators are left out: they change nothing of what is a program.
const grammar = `
program :
program : program global
program : program function
global : int name ;
global : int name [ number ] ;
function : int name ( ) block
function : int name ( parameters ) block
parameters : int name
parameters : parameters , int name
block : { statements }
statements :
statements : statements statement
statement : block
statement : ;
statement : int name ;
statement : int name = expression ;
statement : name = expression ;
statement : name [ expression ] = expression ;
statement : name ( ) ;
statement : name ( arguments ) ;
statement : if ( expression ) statement
statement : if ( expression ) statement else statement
statement : while ( expression ) statement
statement : break ;
statement : continue ;
statement : return expression ;
statement : print expression ;
arguments : expression
arguments : arguments , expression
expression : unary
expression : expression two unary
two : ||
two : &&
two : |
two : ^
two : &
two : ==
two : !=
two : <
two : <=
two : >
two : >=
two : <<
two : >>
two : +
two : -
two : *
two : /
two : %
unary : primary
unary : - unary
unary : ! unary
unary : ~ unary
primary : number
primary : name
primary : name [ expression ]
primary : name ( )
primary : name ( arguments )
primary : read ( )
primary : ( expression )
`

// rules are the ways to make each thing.
func rules() map[string][][]string {
	out := map[string][][]string{}
	for _, line := range strings.Split(strings.TrimSpace(grammar), "\n") {
		fields := strings.Fields(line)
		out[fields[0]] = append(out[fields[0]], fields[2:])
	}
	return out
}

// item is a way to make a thing, how much of it is there already, and behind how many tokens it begins.
type item struct {
	thing     string
	way, done int
	from      int
}

// chart says which tokens may come next, by Earley's way: all items that may be under way behind so many tokens.
type chart struct {
	rules map[string][][]string
	sets  [][]item
}

func newChart() *chart {
	c := &chart{rules: rules()}
	c.add(c.begin("program", 0))
	return c
}

func (c *chart) begin(thing string, from int) []item {
	var out []item
	for way := range c.rules[thing] {
		out = append(out, item{thing, way, 0, from})
	}
	return out
}

// wants is what an item asks for next; nothing, if it is done.
func (c *chart) wants(i item) string {
	way := c.rules[i.thing][i.way]
	if i.done == len(way) {
		return ""
	}
	return way[i.done]
}

// add lays a set of these items and of all that follow from them.
func (c *chart) add(items []item) {
	at := len(c.sets)
	c.sets = append(c.sets, nil)
	have := map[item]bool{}
	put := func(l ...item) {
		for _, i := range l {
			if !have[i] {
				have[i] = true
				c.sets[at] = append(c.sets[at], i)
			}
		}
	}
	put(items...)
	for grown := -1; grown != len(c.sets[at]); {
		grown = len(c.sets[at])
		for n := 0; n < len(c.sets[at]); n++ {
			i := c.sets[at][n]
			want := c.wants(i)
			if want != "" {
				put(c.begin(want, at)...)
				continue
			}
			for _, j := range c.sets[i.from] {
				if c.wants(j) == i.thing {
					j.done++
					put(j)
				}
			}
		}
	}
}

// next are the tokens that may come next, rising.
func (c *chart) next() []string {
	var out []string
	for _, i := range c.sets[len(c.sets)-1] {
		if want := c.wants(i); want != "" && c.rules[want] == nil {
			out = append(out, want)
		}
	}
	slices.Sort(out)
	return slices.Compact(out)
}

// whole tells whether the tokens are a program.
func (c *chart) whole() bool {
	return slices.ContainsFunc(c.sets[len(c.sets)-1], func(i item) bool {
		return i.thing == "program" && i.from == 0 && c.wants(i) == ""
	})
}

// push takes a token that may come next.
func (c *chart) push(token string) {
	var moved []item
	for _, i := range c.sets[len(c.sets)-1] {
		if c.wants(i) == token {
			i.done++
			moved = append(moved, i)
		}
	}
	c.add(moved)
}

func (c *chart) pop() { c.sets = c.sets[:len(c.sets)-1] }

// sort is what the grammar calls a token.
func sort(text string) string {
	switch {
	case lexer.IsName(text):
		return "name"
	case text[0] >= '0' && text[0] <= '9':
		return "number"
	}
	return text
}

// every is a token of each sort.
func every() []string {
	return strings.Fields("x 7 int if else while break continue return print read << >> <= >= == != && || + - * / % & | ^ < > ! ~ = ( ) { } [ ] , ;")
}

// Programs that have each thing of the grammar in them.
func samples() []string {
	return []string{
		"int g ; int a [ 3 ] ; int f ( ) { } int h ( int x ) { } int i ( int x , int y , int z ) { ; } int k ;",
		"int f ( ) { { } { ; { x = 1 ; } } int x ; int y = 2 ; x = y ; a [ x ] = y ; f ( ) ; f ( x ) ; f ( x , 1 , y ) ; break ; continue ; return x ; print 1 ; }",
		"int f ( ) { if ( x ) ; if ( x ) ; else ; if ( 1 ) { } else { } if ( a ) if ( b ) ; else ; else ; while ( x ) while ( y ) if ( z ) break ; else continue ; return 0 ; }",
		"int f ( ) { if ( a ) while ( b ) if ( c ) ; else ; else if ( d ) ; else while ( e ) ; int z ; if ( a ) int y ; else int w = 1 ; }",
		"int f ( ) { print a || b && c | d ^ e & f == g != h < i <= j > k >= l << m >> n + o - p * q / r % s ; }",
		"int f ( ) { print - 1 + ! x * ~ - - y - ( 1 ) ; print ( ( x ) ) ; print a [ 1 ] ; print f ( ) + f ( x ) + f ( 1 , - x , ( y ) ) + read ( ) ; }",
		"int f ( ) { a [ a [ a [ 1 ] + 1 ] ] = f ( f ( f ( ) , a [ f ( 1 ) ] ) ) ; f ( ( 1 ) , a [ ( 1 ) ] , - ( 1 ) ) ; while ( a [ x ] ) f ( read ( ) ) ; }",
	}
}

// agrees tells whether Parse says of these tokens what the grammar says.
func agrees(t *testing.T, c *chart, tokens []string) {
	t.Helper()
	text := strings.Join(tokens, " ") + "\n"
	if c.whole() {
		if p, err, at := Parse(text); err != api.OK || at != (api.Place{}) || !May(p) {
			t.Errorf("Parse(%q) = %v, %d, %v", text, p, err, at)
		}
		return
	}
	fails(t, text, api.ErrEnd, len(text))
}

// P8.1, P8.2: behind each beginning of the samples each token is ErrToken just where the grammar doesn't go on with it.
func TestEachNextToken(t *testing.T) {
	for _, sample := range samples() {
		c := newChart()
		var tokens []string
		for _, token := range strings.Fields(sample) {
			agrees(t, c, tokens)
			next := c.next()
			for _, x := range every() {
				with := append(slices.Clone(tokens), x)
				if slices.Contains(next, sort(x)) {
					c.push(sort(x))
					agrees(t, c, with)
					c.pop()
				} else {
					ahead := strings.Join(with, " ")
					fails(t, ahead+" } ) x", api.ErrToken, len(ahead)-len(x))
				}
			}
			if !slices.Contains(next, sort(token)) {
				t.Fatalf("%q of %q; the grammar: %q", token, sample, next)
			}
			c.push(sort(token))
			tokens = append(tokens, token)
		}
		if !c.whole() {
			t.Errorf("%q is no program", sample)
		}
		agrees(t, c, tokens)
	}
}

// P8.1, P8.2: random walks through the grammar, and the first token that leaves it.
func TestWalks(t *testing.T) {
	r := rand.New(rand.NewSource(81))
	walks := 3000
	if testing.Short() {
		walks = 300
	}
	for range walks {
		c := newChart()
		var tokens []string
		for range r.Intn(60) {
			token := step(r, c.next(), tokens)
			c.push(sort(token))
			tokens = append(tokens, token)
		}
		agrees(t, c, tokens)
		if wrong := every()[r.Intn(len(every()))]; !slices.Contains(c.next(), sort(wrong)) {
			ahead := strings.Join(append(tokens, wrong), " ")
			fails(t, ahead, api.ErrToken, len(ahead)-len(wrong))
		}
	}
}

// step is one of the next tokens, mostly one that ends something; no parameter is one too many.
func step(r *rand.Rand, next, tokens []string) string {
	if slices.Equal(next, []string{")", ","}) && len(tokens) > 24 {
		return ")"
	}
	ends := slices.DeleteFunc(slices.Clone(next), func(s string) bool { return !strings.Contains(";)]}", s) })
	if len(ends) > 0 && r.Intn(3) > 0 {
		next = ends
	}
	switch token := next[r.Intn(len(next))]; token {
	case "name":
		return []string{"x", "y1", "f", "_"}[r.Intn(4)]
	case "number":
		return []string{"1", "7", "4096"}[r.Intn(3)]
	default:
		return token
	}
}
