package lexer

import (
	"strings"
	"testing"
)

const (
	letters = "abcdefghijklmnopqrstuvwxyzABCDEFGHIJKLMNOPQRSTUVWXYZ_"
	digits  = "0123456789"
)

var (
	words = strings.Fields("int if else while break continue return print read")
	signs = strings.Fields("<< >> <= >= == != && || + - * / % & | ^ < > ! ~ = ( ) { } [ ] , ;")
)

// allBytes is each byte, as a text.
func allBytes() []string {
	var out []string
	for i := range 256 {
		out = append(out, string([]byte{byte(i)}))
	}
	return out
}

// P7.1: the nine words, and nothing that is near to one.
func TestIsWord(t *testing.T) {
	if len(words) != 9 {
		t.Fatal(len(words))
	}
	for _, w := range words {
		if !IsWord(w) {
			t.Errorf("IsWord(%q) is false", w)
		}
		for _, near := range []string{
			w + " ", " " + w, w + "_", "_" + w, w + "s", w + "0", w + "\x00", strings.ToUpper(w), strings.ToUpper(w[:1]) + w[1:], w[:len(w)-1], w[1:], w + w,
		} {
			if IsWord(near) {
				t.Errorf("IsWord(%q) is true", near)
			}
		}
	}
	for _, s := range []string{"", " ", "x", "1", "main", "void", "for", "do", "var", "int if", "<<", "ínt"} {
		if IsWord(s) {
			t.Errorf("IsWord(%q) is true", s)
		}
	}
}

// P7.1: the first byte of a name is a letter, those behind it are letters and digits.
func TestIsNameBytes(t *testing.T) {
	for _, c := range allBytes() {
		first := strings.Contains(letters, c)
		later := first || strings.Contains(digits, c)
		for s, want := range map[string]bool{
			c: first, c + "x": first, c + c: first, "x" + c: later, "_" + c + "0": later, "ab" + c + "c": later,
		} {
			if got := IsName(s); got != want {
				t.Errorf("IsName(%q) is %t", s, got)
			}
		}
	}
}

// P7.1: names of 1 to 64 bytes, and no words.
func TestIsName(t *testing.T) {
	for _, s := range []string{
		"x", "_", "__", "x1", "X", "main", "Int", "INT", "int1", "int_", "_int", "i", "iff", "els", "reads", "a0_Z9", strings.Repeat("x", 63), strings.Repeat("9", 63),
	} {
		if s[0] == '9' {
			s = "a" + s
		}
		if !IsName(s) {
			t.Errorf("IsName(%q) is false", s)
		}
	}
	for n := 1; n <= 200; n++ {
		if got := IsName(strings.Repeat("n", n)); got != (n <= 64) {
			t.Errorf("IsName of %d bytes is %t", n, got)
		}
	}
	for _, s := range append(words, "", " ", "x ", " x", "x y", "1", "1x", "x-y", "x.y", "x\n", "é", "xé", "名", "x\xff", "x\x00", "+", "//", "/**/", strings.Repeat("x", 70000)) {
		if IsName(s) {
			t.Errorf("IsName(%q) is true", s)
		}
	}
}
