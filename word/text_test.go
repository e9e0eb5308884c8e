package word

import (
	"fmt"
	"math"
	"strings"
	"testing"

	"brazier/api"
)

// P1.2: the signs in the order of the numbers, and none of others.
func TestSign(t *testing.T) {
	signs := strings.Fields("+ - * / % << >> & | ^ < <= > >= == != && || - ! ~")
	if len(signs) != api.Inv {
		t.Fatal(len(signs))
	}
	for i, want := range signs {
		if s := Sign(i + 1); s != want {
			t.Errorf("Sign(%d) = %q; want %q", i+1, s, want)
		}
	}
	for _, op := range unknown() {
		if s := Sign(op); s != "" {
			t.Errorf("Sign(%d) = %q", op, s)
		}
	}
}

// P1.3: what Dec writes.
func TestDec(t *testing.T) {
	for n, want := range map[int32]string{
		0: "0", 1: "1", -1: "-1", 9: "9", 10: "10", -10: "-10", 100: "100", 1000000: "1000000", 305419896: "305419896",
		math.MaxInt32: "2147483647", math.MinInt32: "-2147483648", -math.MaxInt32: "-2147483647",
	} {
		if s := Dec(n); s != want {
			t.Errorf("Dec(%d) = %q", n, s)
		}
	}
	for _, n := range append(edges(), many(1000)...) {
		if s := Dec(n); s != fmt.Sprintf("%d", n) {
			t.Errorf("Dec(%d) = %q", n, s)
		}
	}
}

// P1.3: what Parse reads.
func TestParse(t *testing.T) {
	for s, want := range map[string]int32{
		"0": 0, "7": 7, "-7": -7, "10": 10, "-1": -1, "1000000": 1000000,
		"2147483646": math.MaxInt32 - 1, "2147483647": math.MaxInt32, "-2147483647": -math.MaxInt32, "-2147483648": math.MinInt32,
	} {
		if n, e := Parse(s); n != want || e != api.OK {
			t.Errorf("Parse(%q) = %d, %d", s, n, e)
		}
	}
}

// P1.3: texts that Dec never writes.
func TestParseOfNone(t *testing.T) {
	for _, s := range []string{
		"", "-", "+", "--1", "-+1", "+-1", "+1", "+0", "-0", "00", "01", "-01", "-00", "007", "0000000000", "00000000001",
		" ", " 1", "1 ", "\t1", "1\n", "1\r\n", "- 1", "1 2", "1-", "1-2", "1+", "1,000", "1_000", "_1", "1.0", "1.", ".1",
		"0x10", "0b1", "0o7", "1e3", "a", "x", "1a", "inf", "nan", "\x00", "1\x00", "\x001", "\xff", "１", "٣", "−1",
		"2147483648", "2147483650", "-2147483649", "3000000000", "-3000000000", "4294967295", "4294967296", "4294967297",
		"9223372036854775807", "9223372036854775808", "-9223372036854775808", "-9223372036854775809",
		"18446744073709551615", "18446744073709551616", "18446744073709551617", "-18446744073709551617",
		strings.Repeat("9", 400), "-" + strings.Repeat("1", 400), strings.Repeat("0", 400) + "1", "1" + strings.Repeat("0", 4000),
	} {
		if n, e := Parse(s); n != 0 || e != api.ErrNum {
			t.Errorf("Parse(%q) = %d, %d", s, n, e)
		}
	}
}

// P1.3: of all short texts just those that Dec writes are read.
func TestParseOfAllShort(t *testing.T) {
	written := map[string]int32{}
	for n := int32(-999); n <= 9999; n++ {
		written[fmt.Sprintf("%d", n)] = n
	}
	const bytes = "0159-+ _.xa"
	texts := []string{""}
	for from := 0; from < len(texts); from++ {
		s := texts[from]
		n, e := Parse(s)
		if want, ok := written[s]; ok && (n != want || e != api.OK) || !ok && (n != 0 || e != api.ErrNum) {
			t.Fatalf("Parse(%q) = %d, %d", s, n, e)
		}
		for i := 0; i < len(bytes) && len(s) < 4; i++ {
			texts = append(texts, s+bytes[i:i+1])
		}
	}
}

// P1.7: what Dec writes Parse reads as the same.
func TestDecParsed(t *testing.T) {
	for _, n := range append(edges(), many(5000)...) {
		if m, e := Parse(Dec(n)); m != n || e != api.OK {
			t.Fatalf("Parse(Dec(%d)) = %d, %d", n, m, e)
		}
	}
}
