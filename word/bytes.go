package word

// A word's bytes.
const size = 4

const digits = "0123456789abcdef"

// Put: P1.4.
func Put(b []byte, n int32) []byte {
	out := make([]byte, len(b), len(b)+size)
	copy(out, b)
	for i := range size {
		out = append(out, byte(uint32(n)>>(8*uint(i))))
	}
	return out
}

// Get: P1.4. What is left is asked by subtraction: the greatest places and a word's bytes would go round.
func Get(b []byte, at int) (int32, bool) {
	if at < 0 || at > len(b)-size {
		return 0, false
	}
	n := uint32(0)
	for i := range size {
		n |= uint32(b[at+i]) << (8 * uint(i))
	}
	return int32(n), true
}

// Hex: P1.4.
func Hex(b []byte) string {
	out := make([]byte, 0, 2*len(b))
	for _, x := range b {
		out = append(out, digits[x>>4], digits[x&15])
	}
	return string(out)
}

// UnHex: P1.4.
func UnHex(s string) ([]byte, bool) {
	if len(s)%2 != 0 {
		return nil, false
	}
	out := make([]byte, 0, len(s)/2)
	for i := range len(s) / 2 {
		high, first := digit(s[2*i])
		low, second := digit(s[2*i+1])
		if !first || !second {
			return nil, false
		}
		out = append(out, high<<4|low)
	}
	return out, true
}

func digit(c byte) (byte, bool) {
	switch {
	case c >= '0' && c <= '9':
		return c - '0', true
	case c >= 'a' && c <= 'f':
		return c - 'a' + 10, true
	}
	return 0, false
}
