package word

import (
	"strconv"

	"brazier/api"
)

// Sign: P1.2.
func Sign(op int) string {
	switch op {
	case api.Add:
		return "+"
	case api.Sub, api.Neg:
		return "-"
	case api.Mul:
		return "*"
	case api.Div:
		return "/"
	case api.Rem:
		return "%"
	case api.Shl:
		return "<<"
	case api.Shr:
		return ">>"
	case api.And:
		return "&"
	case api.Or:
		return "|"
	case api.Xor:
		return "^"
	case api.Lt:
		return "<"
	case api.Le:
		return "<="
	case api.Gt:
		return ">"
	case api.Ge:
		return ">="
	case api.Eq:
		return "=="
	case api.Ne:
		return "!="
	case api.AndAnd:
		return "&&"
	case api.OrOr:
		return "||"
	case api.Not:
		return "!"
	case api.Inv:
		return "~"
	}
	return ""
}

// Dec: P1.3.
func Dec(n int32) string { return strconv.Itoa(int(n)) }

// Parse: P1.3. The library reads more than Dec writes (a + ahead, a 0 too many): what it read is written again and held against the text.
func Parse(s string) (int32, api.Errno) {
	n, err := strconv.ParseInt(s, 10, 32)
	if err != nil || Dec(int32(n)) != s {
		return 0, api.ErrNum
	}
	return int32(n), api.OK
}
