package wire_test

import (
	"fmt"
	"math"
	"math/big"
	"strings"
	"testing"

	"corebank/api"
	"corebank/wire"
)

// P7.3
func TestInt(t *testing.T) {
	for want, n := range map[string]int{
		"0": 0, "7": 7, "-8": -8, "1": 1, "-1": -1, "10": 10, "-10": -10, "100": 100, "1000000000000": api.MaxAmount, "-1000000000000": -api.MaxAmount,
		"4294967296": 1 << 32, "9223372036854775807": math.MaxInt, "9223372036854775806": math.MaxInt - 1, "-9223372036854775808": math.MinInt, "-9223372036854775807": math.MinInt + 1,
	} {
		if s := wire.Int(n); s != want {
			t.Errorf("Int(%d) is %q; want %q", n, s, want)
		}
	}
	for _, n := range numbers() {
		if s := wire.Int(n); s != fmt.Sprint(n) {
			t.Errorf("Int(%d) is %q", n, s)
		}
	}
}

// P7.4
func TestTakeInt(t *testing.T) {
	for s, want := range map[string]int{
		"0": 0, "7": 7, "-8": -8, "1": 1, "-1": -1, "10": 10, "-10": -10, "999999999999999999": 999999999999999999,
		"9223372036854775807": math.MaxInt, "9223372036854775806": math.MaxInt - 1, "-9223372036854775808": math.MinInt, "-9223372036854775807": math.MinInt + 1,
	} {
		if n, problem := wire.TakeInt(s); n != want || problem != api.OK {
			t.Errorf("TakeInt(%q) is %d, %d; want %d", s, n, problem, want)
		}
	}
}

// noNumber requires an error for a text, and no number; the same for the text in a list.
func noNumber(t *testing.T, s string, want api.Errno) {
	t.Helper()
	if n, problem := wire.TakeInt(s); n != 0 || problem != want {
		t.Errorf("TakeInt(%.60q) of %d bytes is %d, %d; want %d", s, len(s), n, problem, want)
	}
	if len(s) > api.MaxText {
		return
	}
	for _, l := range [][]string{{s}, {"5", s}, {s, "5"}, {"5", s, "x"}, {"5", s, "99999999999999999999"}} {
		if numbers, problem := wire.TakeInts(packed(l), len(l)); len(numbers) != 0 || problem != want {
			t.Errorf("TakeInts of %.60q is %v, %d; want %d", l, numbers, problem, want)
		}
	}
}

// P7.4, P7.6
func TestTakeIntSyntax(t *testing.T) {
	for _, s := range []string{
		"", "-", "+", "--1", "-0", "+0", "+1", "+-1", "-+1", "00", "01", "007", "-01", "-00", "-007", "0-", "1-", "1-1", " ", " 1", "1 ", "- 1", "1\n", "\n1", "\t1",
		"1.0", "1.", ".1", "1e3", "1E3", "0x1", "0X1F", "0b1", "0o7", "1_000", "1,000", "'1'", "a", "1a", "a1", ":", "1:", "1:7", "\x00", "1\x00", "\x001", "\xff", "1\xff", "nan", "inf",
		"١", "１", "−1", "²", "1½",
		"00000000000000000000", "-00000000000000000000", "000000000000000000001", "09223372036854775807", "+9223372036854775807", "-09223372036854775808", "9223372036854775807 ", "-9223372036854775808.",
	} {
		noNumber(t, s, api.ErrSyntax)
	}
}

// P7.4, P7.6: ErrOverflow comes after ErrSyntax.
func TestTakeIntOverflow(t *testing.T) {
	for _, s := range []string{
		"9223372036854775808", "-9223372036854775809", "-92233720368547758089", "9223372036854775810", "10000000000000000000", "-10000000000000000000", "9999999999999999999", "-9999999999999999999",
		"18446744073709551615", "18446744073709551616", "18446744073709551617", "-18446744073709551615", "-18446744073709551616", "36893488147419103232", "340282366920938463463374607431768211457", "-340282366920938463463374607431768211456",
	} {
		noNumber(t, s, api.ErrOverflow)
		for _, wrong := range []string{s + "x", s + "-", s + " ", "+" + s, "x" + s, "-0" + strings.TrimPrefix(s, "-"), s + ":" + s} {
			noNumber(t, wrong, api.ErrSyntax)
		}
	}
	one := big.NewInt(1)
	for shift := uint(63); shift < 400; shift++ {
		power := new(big.Int).Lsh(one, shift)
		noNumber(t, power.String(), api.ErrOverflow)
		noNumber(t, new(big.Int).Add(power, one).String(), api.ErrOverflow)
		noNumber(t, new(big.Int).Not(power).String(), api.ErrOverflow)
	}
}

// P7.4: texts of any length; all of their bytes are examined.
func TestTakeIntLong(t *testing.T) {
	for _, size := range []int{17, 18, 19, 20, 21, 39, 40, 64, 1000, api.MaxText, 1 << 21} {
		zeros := strings.Repeat("0", size)
		for _, sign := range []string{"", "-"} {
			noNumber(t, sign+zeros, api.ErrSyntax)
			noNumber(t, sign+zeros+"1", api.ErrSyntax)
			noNumber(t, sign+"1"+zeros+"x", api.ErrSyntax)
			noNumber(t, sign+"1x"+zeros, api.ErrSyntax)
			noNumber(t, sign+"93"+zeros, api.ErrOverflow)
			noNumber(t, sign+strings.Repeat("9", max(size, 19)), api.ErrOverflow)
		}
	}
}

// P7.4, P7.7: every short text of bytes that matter.
func TestTakeIntShortTexts(t *testing.T) {
	for _, s := range texts("-+0129 x", 5) {
		checkTakeInt(t, s)
		if n, problem := wire.TakeInt(s); problem == api.OK && wire.Int(n) != s {
			t.Errorf("TakeInt(%q) is %d, whose decimal form is another", s, n)
		}
	}
}

// P7.4: every byte at every place of a text.
func TestTakeIntWithEachByte(t *testing.T) {
	for _, s := range []string{"0", "-1", "1020304050607080901", "-9223372036854775808", "9223372036854775807", "18446744073709551616"} {
		for place := range len(s) {
			for b := range 256 {
				other := []byte(s)
				other[place] = byte(b)
				checkTakeInt(t, string(other))
			}
		}
	}
}

// P7.3, P7.4, P7.7: the decimal form, back, and what is near it.
func TestTakeIntOfInt(t *testing.T) {
	for _, n := range numbers() {
		s := wire.Int(n)
		if back, problem := wire.TakeInt(s); back != n || problem != api.OK {
			t.Errorf("TakeInt(%q) is %d, %d; want %d", s, back, problem, n)
		}
		for _, other := range []string{"0" + s, "+" + s, "-" + s, " " + s, s + " ", s + "0", s + "9", s[1:], s[:len(s)-1], "-0" + strings.TrimPrefix(s, "-"), s + "."} {
			checkTakeInt(t, other)
		}
	}
}
