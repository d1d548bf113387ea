package money_test

import (
	"fmt"
	"math"
	"math/big"
	"regexp"
	"strings"
	"testing"

	"corebank/api"
	"corebank/money"
)

// powers are those of ten that amounts with 0, 1, .. decimal places are divided by.
var powers = [api.MaxDigits + 1]int{1, 10, 100, 1000, 10000}

// text is the text of a number as the chapter defines it: a whole part, and the remainder with leading zeros.
func text(n, digits int) string {
	sign, magnitude := "", n
	if n < 0 {
		sign, magnitude = "-", -n
	}
	whole, rest := magnitude/powers[digits], magnitude%powers[digits]
	if digits == 0 {
		return fmt.Sprintf("%s%d", sign, whole)
	}
	return fmt.Sprintf("%s%d.%0*d", sign, whole, digits, rest)
}

// shapes are those of texts with 0, 1, .. decimal places.
var shapes = [api.MaxDigits + 1]*regexp.Regexp{
	regexp.MustCompile(`^-?(0|[1-9][0-9]*)\z`),
	regexp.MustCompile(`^-?(0|[1-9][0-9]*)\.[0-9]\z`),
	regexp.MustCompile(`^-?(0|[1-9][0-9]*)\.[0-9]{2}\z`),
	regexp.MustCompile(`^-?(0|[1-9][0-9]*)\.[0-9]{3}\z`),
	regexp.MustCompile(`^-?(0|[1-9][0-9]*)\.[0-9]{4}\z`),
}

// read is what Parse returns, by the shape of the text and the exact number.
func read(s string, digits int) (int, api.Errno) {
	if digits < 0 || digits > api.MaxDigits {
		return 0, api.ErrArg
	}
	if !shapes[digits].MatchString(s) {
		return 0, api.ErrSyntax
	}
	number, _ := new(big.Int).SetString(strings.ReplaceAll(s, ".", ""), 10)
	switch {
	case s[0] == '-' && number.Sign() == 0:
		return 0, api.ErrSyntax
	case number.CmpAbs(big.NewInt(greatest)) > 0:
		return 0, api.ErrOverflow
	}
	return int(number.Int64()), api.OK
}

// checkParse compares Parse with the chapter.
func checkParse(t *testing.T, s string, digits int) {
	t.Helper()
	want, expected := read(s, digits)
	if amount, problem := money.Parse(s, digits); amount != want || problem != expected {
		t.Errorf("Parse(%.60q, %d) is %d, %d; want %d, %d", s, digits, amount, problem, want, expected)
	}
}

// P3.6: the chapter's examples, and each number of decimal places.
func TestFormat(t *testing.T) {
	for _, c := range []struct {
		amount, digits int
		text           string
	}{
		{-1234, 2, "-12.34"}, {5, 2, "0.05"}, {7, 0, "7"},
		{0, 0, "0"}, {0, 1, "0.0"}, {0, 2, "0.00"}, {0, 3, "0.000"}, {0, 4, "0.0000"},
		{1, 0, "1"}, {1, 1, "0.1"}, {1, 2, "0.01"}, {1, 3, "0.001"}, {1, 4, "0.0001"},
		{-1, 0, "-1"}, {-1, 1, "-0.1"}, {-1, 2, "-0.01"}, {-1, 3, "-0.001"}, {-1, 4, "-0.0001"},
		{100, 2, "1.00"}, {-100, 2, "-1.00"}, {99, 2, "0.99"}, {10, 2, "0.10"}, {10050, 3, "10.050"}, {-700, 0, "-700"},
		{greatest, 0, "1000000000000"}, {greatest, 1, "100000000000.0"}, {greatest, 2, "10000000000.00"}, {greatest, 3, "1000000000.000"}, {greatest, 4, "100000000.0000"},
		{least, 0, "-1000000000000"}, {least, 1, "-100000000000.0"}, {least, 2, "-10000000000.00"}, {least, 3, "-1000000000.000"}, {least, 4, "-100000000.0000"},
		{greatest - 1, 2, "9999999999.99"}, {least + 1, 4, "-99999999.9999"},
	} {
		if s, problem := money.Format(c.amount, c.digits); s != c.text || problem != api.OK {
			t.Errorf("Format(%d, %d) is %q, %d; want %q", c.amount, c.digits, s, problem, c.text)
		}
		if amount, problem := money.Parse(c.text, c.digits); amount != c.amount || problem != api.OK {
			t.Errorf("Parse(%q, %d) is %d, %d; want %d", c.text, c.digits, amount, problem, c.amount)
		}
	}
}

// P3.6
func TestFormatRefuses(t *testing.T) {
	for _, amount := range noAmounts {
		for digits := range api.MaxDigits + 1 {
			if s, problem := money.Format(amount, digits); s != "" || problem != api.ErrArg {
				t.Errorf("Format(%d, %d) is %q, %d", amount, digits, s, problem)
			}
		}
	}
	for _, digits := range noDigits {
		for _, amount := range []int{0, 1, -1234, greatest, least, greatest + 1, math.MinInt} {
			if s, problem := money.Format(amount, digits); s != "" || problem != api.ErrArg {
				t.Errorf("Format(%d, %d) is %q, %d", amount, digits, s, problem)
			}
		}
	}
}

// P3.6, P3.8: the text of each small amount, of many others, and back.
func TestParseOfFormat(t *testing.T) {
	var amounts []int
	for amount := -10100; amount <= 10100; amount++ {
		amounts = append(amounts, amount)
	}
	for power := 10; power <= greatest; power *= 10 {
		for near := -2; near <= 2; near++ {
			amounts = append(amounts, power+near, -power+near)
		}
	}
	random := seeded()
	for range 5000 {
		amounts = append(amounts, anyAmount(random))
	}
	for _, amount := range amounts {
		for digits := range api.MaxDigits + 1 {
			if !money.Valid(amount) {
				continue
			}
			s, problem := money.Format(amount, digits)
			if want := text(amount, digits); s != want || problem != api.OK {
				t.Fatalf("Format(%d, %d) is %q, %d; want %q", amount, digits, s, problem, want)
			}
			if back, problem := money.Parse(s, digits); back != amount || problem != api.OK {
				t.Fatalf("Parse(%q, %d) is %d, %d; want %d", s, digits, back, problem, amount)
			}
		}
	}
}

// P3.7: the chapter's examples, and others.
func TestParseRefuses(t *testing.T) {
	for _, c := range []struct {
		s       string
		digits  int
		problem api.Errno
	}{
		{"-0.00", 2, api.ErrSyntax}, {"01", 0, api.ErrSyntax}, {"1.2", 2, api.ErrSyntax}, {"1.", 0, api.ErrSyntax}, {"1000000000001", 0, api.ErrOverflow},
		{"", 0, api.ErrSyntax}, {"", 2, api.ErrSyntax}, {"-", 0, api.ErrSyntax}, {"-", 1, api.ErrSyntax}, {".", 0, api.ErrSyntax}, {".", 1, api.ErrSyntax}, {"-.", 1, api.ErrSyntax},
		{"-0", 0, api.ErrSyntax}, {"-0.0", 1, api.ErrSyntax}, {"-0.0000", 4, api.ErrSyntax}, {"00", 0, api.ErrSyntax}, {"00.00", 2, api.ErrSyntax}, {"-01", 0, api.ErrSyntax}, {"-00.01", 2, api.ErrSyntax},
		{"007.00", 2, api.ErrSyntax}, {".50", 2, api.ErrSyntax}, {"-.50", 2, api.ErrSyntax}, {"1", 2, api.ErrSyntax}, {"100", 2, api.ErrSyntax}, {"12.345", 2, api.ErrSyntax}, {"1.00", 0, api.ErrSyntax}, {"1.", 1, api.ErrSyntax},
		{"1,50", 2, api.ErrSyntax}, {"1.5.0", 1, api.ErrSyntax}, {"1..50", 2, api.ErrSyntax}, {"1.5-", 2, api.ErrSyntax}, {"1.-5", 2, api.ErrSyntax}, {"1.+5", 2, api.ErrSyntax}, {"--1", 0, api.ErrSyntax}, {"+1", 0, api.ErrSyntax}, {"+1.00", 2, api.ErrSyntax},
		{" 1", 0, api.ErrSyntax}, {"1 ", 0, api.ErrSyntax}, {"1\n", 0, api.ErrSyntax}, {"1.00\n", 2, api.ErrSyntax}, {"- 1", 0, api.ErrSyntax}, {"1_000", 0, api.ErrSyntax}, {"1,000", 0, api.ErrSyntax}, {"0x10", 0, api.ErrSyntax}, {"1e3", 0, api.ErrSyntax}, {"1e.00", 2, api.ErrSyntax},
		{"EUR", 0, api.ErrSyntax}, {"\x00", 0, api.ErrSyntax}, {"1\x00", 0, api.ErrSyntax}, {"\xff\xff", 0, api.ErrSyntax}, {"١", 0, api.ErrSyntax}, {"１", 0, api.ErrSyntax}, {"−1", 0, api.ErrSyntax}, {"1.½", 2, api.ErrSyntax}, {"1·50", 2, api.ErrSyntax},
		{"-1000000000001", 0, api.ErrOverflow}, {"100000000000.1", 1, api.ErrOverflow}, {"10000000000.01", 2, api.ErrOverflow}, {"-1000000000.001", 3, api.ErrOverflow}, {"100000000.0001", 4, api.ErrOverflow},
		{"9223372036854775807", 0, api.ErrOverflow}, {"9223372036854775808", 0, api.ErrOverflow}, {"-9223372036854775808", 0, api.ErrOverflow}, {"18446744073709551616", 0, api.ErrOverflow}, {"18446744073709551617", 0, api.ErrOverflow},
		{"184467440737095516.17", 2, api.ErrOverflow}, {"-18446744073709551617", 0, api.ErrOverflow}, {"340282366920938463463374607431768211457", 0, api.ErrOverflow},
		{"1000000000000x", 0, api.ErrSyntax}, {"99999999999999999999,", 0, api.ErrSyntax}, {"099999999999999", 0, api.ErrSyntax}, {"99999999999999.9x", 2, api.ErrSyntax}, {"9999999999999999.9", 2, api.ErrSyntax}, {"99999999999999999999999", 2, api.ErrSyntax},
	} {
		if amount, problem := money.Parse(c.s, c.digits); amount != 0 || problem != c.problem {
			t.Errorf("Parse(%q, %d) is %d, %d; want %d", c.s, c.digits, amount, problem, c.problem)
		}
	}
}

// P3.7: the decimal places are examined first.
func TestParseRefusesDecimalPlaces(t *testing.T) {
	for _, digits := range noDigits {
		for _, s := range []string{"", "1", "0", "x", "-", "1.5", "1.00000", "1.000000", "-0.00000", "1000000000001", "100000000.00001", strings.Repeat("9", 1000)} {
			if amount, problem := money.Parse(s, digits); amount != 0 || problem != api.ErrArg {
				t.Errorf("Parse(%.20q, %d) is %d, %d", s, digits, amount, problem)
			}
		}
	}
}

// P3.7, P3.8: every short text of bytes that matter.
func TestParseShortTexts(t *testing.T) {
	texts := []string{""}
	for range 6 {
		var longer []string
		for _, s := range texts {
			for digits := range api.MaxDigits + 1 {
				checkParse(t, s, digits)
				if amount, problem := money.Parse(s, digits); problem == api.OK && text(amount, digits) != s {
					t.Errorf("Parse(%q, %d) is %d, whose text is another", s, digits, amount)
				}
			}
			for _, c := range []byte("-.019x") {
				longer = append(longer, s+string(c))
			}
		}
		texts = longer
	}
}

// P3.7: every byte at every place of a text.
func TestParseWithEachByte(t *testing.T) {
	for digits := range api.MaxDigits + 1 {
		for _, s := range []string{text(-10203040, digits), text(greatest, digits), text(0, digits)} {
			for place := range len(s) {
				for b := range 256 {
					other := []byte(s)
					other[place] = byte(b)
					checkParse(t, string(other), digits)
				}
			}
		}
	}
}

// P3.7, P3.8: what is longer by a byte, or shorter, or has another number of decimal places, is read as what it is.
func TestParseTextsNearAmounts(t *testing.T) {
	random := seeded()
	for range 3000 {
		s := text(anyAmount(random), random.IntN(api.MaxDigits+1))
		place, c := random.IntN(len(s)), "-.0123456789+ x"[random.IntN(15)]
		for digits := range api.MaxDigits + 1 {
			checkParse(t, s, digits)
			checkParse(t, s[:place]+s[place+1:], digits)
			checkParse(t, s[:place]+string(c)+s[place:], digits)
			checkParse(t, s+string(c), digits)
		}
	}
}

// P3.7: texts of any length; a wrong byte counts more than the size of the number.
func TestParseLongTexts(t *testing.T) {
	for _, length := range []int{12, 13, 14, 15, 18, 19, 20, 21, 38, 40, 64, 65, 1000, 1 << 16} {
		for _, digits := range []string{strings.Repeat("9", length), "1" + strings.Repeat("0", length), strings.Repeat("0", length), "1" + strings.Repeat("0", length) + "1", "-" + strings.Repeat("1", length)} {
			checkParse(t, digits, 0)
			checkParse(t, digits+"x", 0)
			checkParse(t, "x"+digits, 0)
			checkParse(t, digits+".00", 2)
			checkParse(t, digits+".0", 2)
			checkParse(t, "1."+digits, 4)
			checkParse(t, digits+"."+digits, 4)
		}
	}
	long := strings.Repeat("7", 1<<22)
	for s, want := range map[string]api.Errno{long: api.ErrOverflow, "-" + long: api.ErrOverflow, long + "-": api.ErrSyntax, "0" + long: api.ErrSyntax, long[1:] + ":" + long: api.ErrSyntax} {
		if amount, problem := money.Parse(s, 0); amount != 0 || problem != want {
			t.Errorf("Parse of %d bytes is %d, %d; want %d", len(s), amount, problem, want)
		}
	}
}
