package lexer

// How many bytes a name has at most.
const maxName = 64

const lineEnd = '\n'

func blank(c byte) bool { return c == ' ' || c == '\t' || c == lineEnd || c == '\r' }

func letter(c byte) bool { return c >= 'a' && c <= 'z' || c >= 'A' && c <= 'Z' || c == '_' }

func digit(c byte) bool { return c >= '0' && c <= '9' }

// run is how many letters and digits s begins with.
func run(s string) int {
	for i := range len(s) {
		if !letter(s[i]) && !digit(s[i]) {
			return i
		}
	}
	return len(s)
}

// sign is how many bytes the longest sign has with which s begins, 0 if there is none.
func sign(s string) int {
	first, second := byteAt(s, 0), byteAt(s, 1)
	switch first {
	case '<', '>':
		if second == first || second == '=' {
			return 2
		}
		return 1
	case '=', '!':
		if second == '=' {
			return 2
		}
		return 1
	case '&', '|':
		if second == first {
			return 2
		}
		return 1
	case '+', '-', '*', '/', '%', '^', '~', '(', ')', '{', '}', '[', ']', ',', ';':
		return 1
	}
	return 0
}

// byteAt is 0 behind the end: no sign has that byte.
func byteAt(s string, i int) byte {
	if i < len(s) {
		return s[i]
	}
	return 0
}

// IsWord: P7.1.
func IsWord(s string) bool {
	switch s {
	case "int", "if", "else", "while", "break", "continue", "return", "print", "read":
		return true
	}
	return false
}

// IsName: P7.1.
func IsName(s string) bool {
	return s != "" && len(s) <= maxName && letter(s[0]) && run(s) == len(s) && !IsWord(s)
}
