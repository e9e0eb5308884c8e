package lexer

import (
	"fmt"
	"math/rand"
	"regexp"
	"slices"
	"strconv"
	"strings"
	"testing"

	"brazier/api"
)

// placed is P7.3, by the lines of what is ahead.
func placed(text string, off int) api.Place {
	lines := strings.Split(text[:off], "\n")
	return api.Place{Off: off, Line: len(lines), Col: len(lines[len(lines)-1]) + 1}
}

// name, num, word, sign are tokens at a place of a text on one line.
func name(s string, off int) api.Token { return tok(api.TokName, s, 0, off) }

func num(s string, n int32, off int) api.Token { return tok(api.TokNum, s, n, off) }

func word(s string, off int) api.Token { return tok(api.TokWord, s, 0, off) }

func sgn(s string, off int) api.Token { return tok(api.TokSign, s, 0, off) }

func tok(kind int, s string, n int32, off int) api.Token {
	return api.Token{Kind: kind, Text: s, Num: n, At: api.Place{Off: off, Line: 1, Col: off + 1}}
}

// takes tells that All answers these tokens.
func takes(t *testing.T, text string, want ...api.Token) {
	t.Helper()
	l, err, at := All(text)
	if !slices.Equal(l, want) || err != api.OK || at != (api.Place{}) {
		t.Errorf("All(%.80q) = %v, %d, %v; want %v", text, l, err, at, want)
	}
}

// fails tells that All answers this error, there, and nothing else.
func fails(t *testing.T, text string, want api.Errno, off int) {
	t.Helper()
	l, err, at := All(text)
	if len(l) != 0 || err != want || at != placed(text, off) {
		t.Errorf("All(%.80q) = %v, %d, %v; want %d, %v", text, l, err, at, want, placed(text, off))
	}
}

// P7.2: the chapter's examples.
func TestExamples(t *testing.T) {
	takes(t, "x1 = 10<<y;", name("x1", 0), sgn("=", 3), num("10", 10, 5), sgn("<<", 7), name("y", 9), sgn(";", 10))
	fails(t, "1x", api.ErrNum, 0)
	fails(t, "a /*", api.ErrEnd, 4)
	fails(t, "a @", api.ErrByte, 2)
}

// P7.2: texts of nothing but blanks and comments have no tokens.
func TestNone(t *testing.T) {
	for _, s := range []string{
		"", " ", "\t", "\n", "\r", " \t\r\n \n\n", "//", "//\n", "// x 1 + @ \xff é /*", "// x\n// y\n", "///", "////\n", "/**/", "/***/", "/****/", "/* */", "/*\n\n*/\n",
		"/*/*/", "/* /* */", "/* // */", "// */\n", "/* 1x @ \xff */", "/**//**/", "/**///", "/* * / **/", "//\r/*\n/*\r*/",
	} {
		takes(t, s)
	}
}

// P7.2: each blank parts what would be one; other bytes aren't blanks.
func TestBlanks(t *testing.T) {
	for _, b := range []string{" ", "\t", "\r"} {
		takes(t, "a"+b+"b", name("a", 0), name("b", 2))
		takes(t, b+"<"+b+"<"+b, sgn("<", 1), sgn("<", 3))
		takes(t, b+b+"1"+b+b, num("1", 1, 2))
	}
	l, err, at := All("a\nb")
	if want := (api.Place{Off: 2, Line: 2, Col: 1}); len(l) != 2 || l[1].At != want || err != api.OK || at != (api.Place{}) {
		t.Error(l, err, at)
	}
	for _, b := range []string{"\v", "\f", "\x00", "\b", "\x1a", "\x85", "\xa0", "\u00a0", "\u2003", "\ufeff"} {
		fails(t, "a "+b+"b", api.ErrByte, 2)
		fails(t, "a"+b, api.ErrByte, 1)
		fails(t, b, api.ErrByte, 0)
	}
}

// P7.2: comments part tokens, and end where they must.
func TestComments(t *testing.T) {
	takes(t, "a/**/b", name("a", 0), name("b", 5))
	takes(t, "</**/<", sgn("<", 0), sgn("<", 5))
	takes(t, "a/* x */+/* y */b", name("a", 0), sgn("+", 8), name("b", 16))
	takes(t, "a/*/b*/c", name("a", 0), name("c", 7))
	takes(t, "/* /* */ */", sgn("*", 9), sgn("/", 10))
	takes(t, "/***/ */", sgn("*", 6), sgn("/", 7))
	takes(t, "a*/b", name("a", 0), sgn("*", 1), sgn("/", 2), name("b", 3))
	takes(t, "a / /b", name("a", 0), sgn("/", 2), sgn("/", 4), name("b", 5))
	takes(t, "a/ *b", name("a", 0), sgn("/", 1), sgn("*", 3), name("b", 4))
	takes(t, "*//", sgn("*", 0))
	takes(t, "a//b", name("a", 0))
	takes(t, "a//\rb", name("a", 0))
	l, err, _ := All("a // x /*\r\n b /* \n // */ c")
	want := []api.Token{
		{Kind: api.TokName, Text: "a", At: api.Place{Off: 0, Line: 1, Col: 1}},
		{Kind: api.TokName, Text: "b", At: api.Place{Off: 12, Line: 2, Col: 2}},
		{Kind: api.TokName, Text: "c", At: api.Place{Off: 25, Line: 3, Col: 8}},
	}
	if !slices.Equal(l, want) || err != api.OK {
		t.Error(l, err)
	}
}

// P7.2: a comment that has no end is told at the text's end.
func TestOpenComments(t *testing.T) {
	for _, s := range []string{
		"/*", "/*/", "/* /", "/**", "/* *", "/* * /", "/*\n", "/*\n\n x", "a /* b", "a\n/* */ /*", "/* // */ /* \n\n//", "1 + /* @", "/**/ /* 1x", "/*/ /", "x//*/\n/*/", "/* \xff",
	} {
		fails(t, s, api.ErrEnd, len(s))
	}
}

// P7.2: words and names.
func TestNames(t *testing.T) {
	for _, w := range words {
		takes(t, w, word(w, 0))
		takes(t, w+"("+w+")", word(w, 0), sgn("(", len(w)), word(w, len(w)+1), sgn(")", 2*len(w)+1))
		for _, n := range []string{w + "_", "_" + w, w + "0", w + w, strings.ToUpper(w)} {
			takes(t, n, name(n, 0))
		}
	}
	for _, n := range []string{"a", "_", "_1", letters, "A0123456789_", "x" + digits, strings.Repeat("y", 64), "z" + strings.Repeat("0", 63)} {
		takes(t, n, name(n, 0))
		takes(t, " "+n+"+"+n, name(n, 1), sgn("+", len(n)+1), name(n, len(n)+2))
	}
}

// P7.2: names of more than 64 bytes are too much, where they begin.
func TestLongNames(t *testing.T) {
	for _, n := range []int{65, 66, 100, 1000, api.MaxText - 10} {
		s := strings.Repeat("q", n)
		fails(t, s, api.ErrBig, 0)
		fails(t, "int "+s, api.ErrBig, 4)
		fails(t, "a\n "+s+"@", api.ErrBig, 3)
		fails(t, "_"+strings.Repeat("7", n-1), api.ErrBig, 0)
	}
	fails(t, strings.Repeat("int", 22), api.ErrBig, 0)
	fails(t, strings.Repeat("x", 64)+" "+strings.Repeat("x", 65), api.ErrBig, 65)
}

// P7.2: numbers from 0 to the greatest word.
func TestNumbers(t *testing.T) {
	for s, n := range map[string]int32{
		"0": 0, "1": 1, "9": 9, "10": 10, "99": 99, "100": 100, "1000000": 1000000, "999999999": 999999999, "1000000000": 1000000000, "2147483639": 2147483639, "2147483646": 2147483646, "2147483647": 2147483647,
	} {
		takes(t, s, num(s, n, 0))
		takes(t, "-"+s+";", sgn("-", 0), num(s, n, 1), sgn(";", len(s)+1))
		takes(t, s+" "+s, num(s, n, 0), num(s, n, len(s)+1))
	}
	for n := range 2000 {
		s := strconv.Itoa(n)
		takes(t, s, num(s, int32(n), 0))
	}
}

// P7.2: what begins with a digit and is no number is none where it begins.
func TestNoNumbers(t *testing.T) {
	for _, s := range []string{
		"00", "01", "000", "007", "010", "00000000001", "0x", "0x10", "0b1", "0o7", "0_1", "1_000", "1_", "1x", "1e3", "12a", "1int", "0a", "9Z", "123abc456",
		"2147483648", "2147483649", "2147483650", "2147483700", "3000000000", "4294967295", "4294967296", "4294967297", "9999999999", "10000000000", "21474836470",
		"9223372036854775807", "9223372036854775808", "18446744073709551615", "18446744073709551616", "18446744073709551617", strings.Repeat("9", 65), strings.Repeat("1", 60000), "0" + strings.Repeat("0", 64), "1" + strings.Repeat("x", 64),
	} {
		fails(t, s, api.ErrNum, 0)
		fails(t, "x = "+s+";", api.ErrNum, 4)
		fails(t, "\n\n\t"+s+" @", api.ErrNum, 3)
	}
}

// P7.2: each sign by itself; of two that stand together, the longest first.
func TestSigns(t *testing.T) {
	for _, a := range signs {
		takes(t, a, sgn(a, 0))
		takes(t, "x"+a+"y", name("x", 0), sgn(a, 1), name("y", len(a)+1))
		for _, b := range signs {
			takes(t, a+" "+b, sgn(a, 0), sgn(b, len(a)+1))
			if s := a + b; !strings.Contains(s, "//") && !strings.Contains(s, "/*") {
				takes(t, s, longest(s)...)
			}
		}
	}
	takes(t, "<<=", sgn("<<", 0), sgn("=", 2))
	takes(t, "<<<", sgn("<<", 0), sgn("<", 2))
	takes(t, "===", sgn("==", 0), sgn("=", 2))
	takes(t, "!==", sgn("!=", 0), sgn("=", 2))
	takes(t, "&&&", sgn("&&", 0), sgn("&", 2))
	takes(t, "=<>=", sgn("=", 0), sgn("<", 1), sgn(">=", 2))
	takes(t, "=!", sgn("=", 0), sgn("!", 1))
	takes(t, "--!!~~", sgn("-", 0), sgn("-", 1), sgn("!", 2), sgn("!", 3), sgn("~", 4), sgn("~", 5))
}

// longest cuts signs by the list of them: its longer ones stand first.
func longest(s string) []api.Token {
	var out []api.Token
	for off := 0; off < len(s); {
		i := slices.IndexFunc(signs, func(x string) bool { return strings.HasPrefix(s[off:], x) })
		out = append(out, sgn(signs[i], off))
		off += len(signs[i])
	}
	return out
}

// P7.2: each byte by itself, and behind others.
func TestBytes(t *testing.T) {
	for i, c := range allBytes() {
		switch {
		case strings.Contains(letters, c):
			takes(t, c, name(c, 0))
		case strings.Contains(digits, c):
			takes(t, c, num(c, int32(i-'0'), 0))
		case strings.Contains(" \t\n\r", c):
			takes(t, c)
		case slices.Contains(signs, c):
			takes(t, c, sgn(c, 0))
		default:
			fails(t, c, api.ErrByte, 0)
			fails(t, "x"+c, api.ErrByte, 1)
			fails(t, "10"+c+"1", api.ErrByte, 2)
			fails(t, "<"+c, api.ErrByte, 1)
			fails(t, "// "+c+"\n "+c, api.ErrByte, len(c)+5)
		}
	}
	for _, s := range []string{"é", "ß", "変", "“", "\xf0\x9f\x98\x80"} {
		fails(t, s, api.ErrByte, 0)
		fails(t, "x"+s, api.ErrByte, 1)
	}
}

// P7.2: of several faults the first in the text is told.
func TestFirstError(t *testing.T) {
	long := strings.Repeat("n", 65)
	fails(t, "1x @ "+long+" /*", api.ErrNum, 0)
	fails(t, "@ 1x "+long+" /*", api.ErrByte, 0)
	fails(t, long+" 1x @ /*", api.ErrBig, 0)
	fails(t, "/* 1x @ "+long, api.ErrEnd, len(long)+8)
	fails(t, "// @\n1x@", api.ErrNum, 5)
	fails(t, "1@", api.ErrByte, 1)
}

// P7.2: a text of MaxText bytes is cut; one more is too much, whatever it is, at the beginning.
func TestBigTexts(t *testing.T) {
	for _, c := range []string{" ", "(", "\n", "/", ";"} {
		full := strings.Repeat(c, api.MaxText)
		l, err, at := All(full)
		if want := map[string]int{"(": api.MaxText, ";": api.MaxText}[c]; len(l) != want || err != api.OK || at != (api.Place{}) {
			t.Errorf("All of %q = %d tokens, %d, %v", c, len(l), err, at)
		}
		if len(l) > 0 && l[len(l)-1] != sgn(c, api.MaxText-1) {
			t.Errorf("the last one of %q: %v", c, l[len(l)-1])
		}
		fails(t, full+c, api.ErrBig, 0)
	}
	for _, s := range []string{"@", "1x", "/*", "\n", "x y ", "/* */"} {
		fails(t, strings.Repeat(s, api.MaxText+1), api.ErrBig, 0)
		fails(t, s+strings.Repeat(" ", api.MaxText), api.ErrBig, 0)
	}
	fails(t, strings.Repeat(" ", api.MaxText-1)+"@", api.ErrByte, api.MaxText-1)
	fails(t, strings.Repeat("\n", api.MaxText-2)+"/*", api.ErrEnd, api.MaxText)
}

// P7.3: the place with off bytes ahead.
func TestAt(t *testing.T) {
	for _, text := range []string{"", "a", "\n", "\n\n\n", "ab\ncd", "ab\ncd\n", "\r\n\tx\r\n", "a\rb", "é\n変\xff", "// x\n/*\n\n*/ y"} {
		for off := range len(text) + 1 {
			if p := At(text, off); p != placed(text, off) {
				t.Errorf("At(%q, %d) = %v", text, off, p)
			}
		}
		for _, off := range []int{-1, -2, -1000, -1 << 63} {
			if p := At(text, off); p != (api.Place{Off: 0, Line: 1, Col: 1}) {
				t.Errorf("At(%q, %d) = %v", text, off, p)
			}
		}
		for _, off := range []int{len(text) + 1, len(text) + 1000, 1<<63 - 1} {
			if p := At(text, off); p != placed(text, len(text)) {
				t.Errorf("At(%q, %d) = %v", text, off, p)
			}
		}
	}
	if p := At("ab\ncd", 4); p != (api.Place{Off: 4, Line: 2, Col: 2}) {
		t.Error(p)
	}
	if p := At(strings.Repeat("x\n", api.MaxText), 2*api.MaxText); p != (api.Place{Off: 2 * api.MaxText, Line: api.MaxText + 1, Col: 1}) {
		t.Error("of a text that All refuses:", p)
	}
}

// P7.4: the Texts and nothing else of the tokens, a blank between two.
func TestPrint(t *testing.T) {
	for want, l := range map[string][]api.Token{
		"":          nil,
		"x":         {name("x", 7)},
		"x = 10 ;":  {name("x", 0), sgn("=", 0), num("10", 3, 9), sgn(";", 1)},
		"a  b":      {name("a", 0), {}, name("b", 0)},
		" ":         {{}, {}},
		"a b\n /* ": {{Kind: -5, Text: "a b\n"}, {Kind: 99, Text: "/* "}},
	} {
		if s := Print(l); s != want {
			t.Errorf("Print(%v) = %q", l, s)
		}
	}
	if s := Print([]api.Token{}); s != "" {
		t.Errorf("Print of none = %q", s)
	}
	if s := Print([]api.Token{{}}); s != "" {
		t.Errorf("Print of one that is nothing = %q", s)
	}
	l := []api.Token{name("x", 0), sgn("+", 1), name("y", 2)}
	kept := slices.Clone(l)
	if s := Print(l[:2]); s != "x +" || !slices.Equal(l, kept) {
		t.Errorf("%q; what was handed in: %v", s, l)
	}
}

// Rules 4 and 6: an answer shares nothing with another one, and asked again it's the same.
func TestAgain(t *testing.T) {
	const text = "int main() { print x1 << 10; }"
	first, _, _ := All(text)
	kept := slices.Clone(first)
	for i := range first {
		first[i] = api.Token{}
	}
	if again, _, _ := All(text); !slices.Equal(again, kept) {
		t.Error(again)
	}
}

// pieces is what P7.2 says by patterns: the comments, and the kinds of what stands behind them, the first that fits.
var pieces = []struct {
	kind int
	at   *regexp.Regexp
}{
	{0, regexp.MustCompile(`^(?:[ \t\n\r]|//[^\n]*|/\*(?s:.*?)\*/)`)},
	{-1, regexp.MustCompile(`^/\*`)},
	{api.TokName, regexp.MustCompile(`^[A-Za-z_][A-Za-z0-9_]*`)},
	{api.TokNum, regexp.MustCompile(`^[0-9][A-Za-z0-9_]*`)},
	{api.TokSign, regexp.MustCompile(`^(?:<<|>>|[<>=!]=|&&|\|\||[-+*/%&|^<>!~=(){}\[\],;])`)},
	{-2, regexp.MustCompile(`^(?s:.)`)},
}

var (
	aWord   = regexp.MustCompile(`^(int|if|else|while|break|continue|return|print|read)$`)
	aNumber = regexp.MustCompile(`^(0|[1-9][0-9]{0,9})$`)
)

// cutByPatterns is P7.2 by these patterns.
func cutByPatterns(text string) ([]api.Token, api.Errno, int) {
	var out []api.Token
	for off := 0; off < len(text); {
		kind, s := 0, ""
		for _, p := range pieces {
			if m := p.at.FindString(text[off:]); m != "" {
				kind, s = p.kind, m
				break
			}
		}
		tk := api.Token{Kind: kind, Text: s, At: placed(text, off)}
		switch kind {
		case -1:
			return nil, api.ErrEnd, len(text)
		case -2:
			return nil, api.ErrByte, off
		case api.TokName:
			if len(s) > 64 {
				return nil, api.ErrBig, off
			}
			if aWord.MatchString(s) {
				tk.Kind = api.TokWord
			}
		case api.TokNum:
			n, err := strconv.ParseUint(s, 10, 31)
			if err != nil || !aNumber.MatchString(s) {
				return nil, api.ErrNum, off
			}
			tk.Num = int32(n)
		}
		if kind != 0 {
			out = append(out, tk)
		}
		off += len(s)
	}
	return out, api.OK, 0
}

// scraps is what random texts are made of.
func scraps() []string {
	return slices.Concat(words, signs, []string{
		" ", " ", " ", "\n", "\n", "\t", "\r", "//", "/*", "*/", "*/", "//\n", "/**/", "/*\n*/", "a", "x1", "_", "main", "int_", "0", "7", "10", "2147483647",
	})
}

// rare is what mostly spoils a text.
func rare() []string {
	return []string{"@", "\"", "\x00", "é", "\xff", "00", "1x", "2147483648", strings.Repeat("w", 64), strings.Repeat("w", 65), strings.Repeat("8", 65)}
}

// randomText is a text of up to n scraps.
func randomText(r *rand.Rand, n int) string {
	var b strings.Builder
	for range r.Intn(n + 1) {
		from := scraps()
		if r.Intn(60) == 0 {
			from = rare()
		}
		b.WriteString(from[r.Intn(len(from))])
	}
	return b.String()
}

// P7.2, against the patterns, on random texts.
func TestAllByPatterns(t *testing.T) {
	r := rand.New(rand.NewSource(7))
	ends := map[api.Errno]int{}
	for range 20000 {
		text := randomText(r, 25)
		want, wantErr, off := cutByPatterns(text)
		ends[wantErr]++
		if wantErr != api.OK {
			fails(t, text, wantErr, off)
		} else {
			takes(t, text, want...)
		}
	}
	for _, e := range []api.Errno{api.OK, api.ErrEnd, api.ErrNum, api.ErrByte, api.ErrBig} {
		if ends[e] < 100 {
			t.Error("few random texts end with", e, ends)
		}
	}
}

// P7.2, against the patterns, on all texts of a few bytes that matter.
func TestAllOfShortTexts(t *testing.T) {
	const few = "/*\n 0i<=@"
	for n := range 6 {
		if n == 5 && testing.Short() {
			break
		}
		each(few, n, func(text string) {
			want, wantErr, off := cutByPatterns(text)
			if wantErr != api.OK {
				fails(t, text, wantErr, off)
			} else {
				takes(t, text, want...)
			}
		})
	}
}

// each goes through all texts of n of these bytes.
func each(bytes string, n int, do func(string)) {
	if n == 0 {
		do("")
		return
	}
	each(bytes, n-1, func(s string) {
		for i := range len(bytes) {
			do(s + bytes[i:i+1])
		}
	})
}

// bare is tokens without their places.
func bare(l []api.Token) []api.Token {
	out := slices.Clone(l)
	for i := range out {
		out[i].At = api.Place{}
	}
	return out
}

// P7.5: tokens, printed, are cut into the same, but for places; the printing of what was printed is the same text.
func TestPrintedIsCutAlike(t *testing.T) {
	r := rand.New(rand.NewSource(75))
	for range 20000 {
		l, err, _ := All(randomText(r, 25))
		if err != api.OK {
			continue
		}
		s := Print(l)
		again, err, at := All(s)
		if err != api.OK || at != (api.Place{}) || !slices.Equal(bare(again), bare(l)) {
			t.Fatalf("%q: %v, %d, %v; want %v", s, again, err, at, l)
		}
		if Print(again) != s {
			t.Fatalf("%q, printed again: %q", s, Print(again))
		}
	}
}

// fillings may stand between two tokens.
var fillings = []string{" ", "\n", "\t\r\n", "/**/", "/* x */", " // y\n", "//\n", "\n/*\n@ \xff 1x */\n", "/*/*/", " /* // */ "}

// P7.6: further blanks and comments, ahead of tokens, between and behind them, change none of them. A comment's / must not meet another one, so a blank goes ahead of it behind a sign /.
func TestFillings(t *testing.T) {
	r := rand.New(rand.NewSource(76))
	for range 5000 {
		text := randomText(r, 25)
		l, err, _ := All(text)
		if err != api.OK {
			continue
		}
		var b strings.Builder
		from := 0
		for _, tk := range l {
			b.WriteString(text[from:tk.At.Off])
			fill(r, &b, from > 0 && text[from-1] == '/' && from == tk.At.Off)
			from = tk.At.Off + len(tk.Text)
			b.WriteString(tk.Text)
		}
		b.WriteString(" " + fillings[r.Intn(len(fillings))])
		again, err, _ := All(b.String())
		if err != api.OK || !slices.Equal(bare(again), bare(l)) {
			t.Fatalf("%q, filled %q: %v, %d", text, b.String(), again, err)
		}
	}
}

// fill writes up to three fillings.
func fill(r *rand.Rand, b *strings.Builder, slash bool) {
	n := r.Intn(4)
	if slash && n > 0 {
		b.WriteByte(' ')
	}
	for range n {
		b.WriteString(fillings[r.Intn(len(fillings))])
	}
}

// P7.7: places rise, and each is where its token stands.
func TestPlacesRise(t *testing.T) {
	r := rand.New(rand.NewSource(77))
	for range 5000 {
		text := randomText(r, 40)
		l, _, _ := All(text)
		for i, tk := range l {
			if tk.At != At(text, tk.At.Off) || tk.At != placed(text, tk.At.Off) || !strings.HasPrefix(text[tk.At.Off:], tk.Text) {
				t.Fatalf("%q: %v", text, tk)
			}
			if i > 0 && !below(l[i-1].At, tk.At) {
				t.Fatalf("%q: %v behind %v", text, tk, l[i-1])
			}
		}
	}
}

// below tells whether one place is ahead of another, by its bytes as by its lines and columns.
func below(a, b api.Place) bool {
	return a.Off < b.Off && (a.Line < b.Line || a.Line == b.Line && a.Col < b.Col)
}

func ExamplePrint() {
	l, _, _ := All("x1=10<<y; // up")
	fmt.Println(Print(l))
	// Output: x1 = 10 << y ;
}
