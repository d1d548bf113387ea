package wide_test

import (
	"math/big"
	"strings"
	"testing"

	"corebank/api"
	"corebank/wide"
)

// P1.7
func TestText(t *testing.T) {
	for want, a := range map[string]api.Wide{
		"0": {}, "7": wide.Of(7), "-1": wide.Of(-1),
		"18446744073709551615":                     {Lo: 1<<64 - 1},
		"18446744073709551616":                     {Hi: 1},
		"-18446744073709551616":                    {Hi: -1},
		"170141183460469231731687303715884105727":  greatest,
		"-170141183460469231731687303715884105728": least,
	} {
		if s := wide.Text(a); s != want {
			t.Errorf("Text of %v: %s, not %s", a, s, want)
		}
	}
	for _, a := range wides() {
		if s, want := wide.Text(a), exact(a).String(); s != want {
			t.Fatalf("Text of %v: %s, not %s", a, s, want)
		}
	}
}

// P1.8
func TestParse(t *testing.T) {
	for _, a := range wides() {
		s := exact(a).String()
		if got, e := wide.Parse(s); got != a || e != api.OK {
			t.Fatalf("Parse of %s: %v and error %d, not %v", s, got, e, a)
		}
	}
}

// refused requires an error for a text, and no number.
func refused(t *testing.T, s string, want api.Errno) {
	t.Helper()
	if a, e := wide.Parse(s); a != (api.Wide{}) || e != want {
		t.Errorf("Parse of %.60q with %d bytes: %v and error %d, not error %d", s, len(s), a, e, want)
	}
}

// P1.8
func TestParseSyntax(t *testing.T) {
	for _, s := range []string{
		"", "-", "--1", "-0", "+0", "+1", "00", "01", "007", "-01", "-00", " 1", "1 ", "- 1", "1-", "1\n", "1.0", "1e3", "0x1", "1_000", "1,000", "\x00", "1\x00",
		"\u0663",                                // a digit of another script
		"0000000000000000000000000000000000001", // leading zeros that fill whole blocks of digits
		"-0000000000000000000000000000000000000",
	} {
		refused(t, s, api.ErrSyntax)
	}
}

// P1.8
func TestParseWrongByteAnywhere(t *testing.T) {
	const digits = "170141183460469231731687303715884105727"
	for at := range len(digits) {
		for c := range 256 {
			if c >= '0' && c <= '9' || at == 0 && c == '-' {
				continue
			}
			s := digits[:at] + string([]byte{byte(c)}) + digits[at+1:]
			refused(t, s, api.ErrSyntax)
			refused(t, "-"+s, api.ErrSyntax)
		}
		refused(t, digits[:at]+"x", api.ErrSyntax)
	}
}

// P1.8
func TestParseOverflow(t *testing.T) {
	one := big.NewInt(1)
	above := new(big.Int).Add(exact(greatest), one)
	below := new(big.Int).Sub(exact(least), one)
	for range 300 {
		refused(t, above.String(), api.ErrOverflow)
		refused(t, below.String(), api.ErrOverflow)
		// Steps of several lengths also reach the edges of 2^128 and numbers that are 0 modulo 2^128.
		above.Add(above, new(big.Int).Rsh(above, 2)).Add(above, one)
		below.Add(below, new(big.Int).Rsh(below, 1)).Sub(below, one)
	}
	for shift := uint(127); shift < 400; shift++ {
		power := new(big.Int).Lsh(one, shift)
		refused(t, power.String(), api.ErrOverflow)
		refused(t, new(big.Int).Add(power, one).String(), api.ErrOverflow)
		refused(t, new(big.Int).Not(power).String(), api.ErrOverflow)
	}
}

// P1.8: texts may be long, and ErrSyntax comes before ErrOverflow.
func TestParseLong(t *testing.T) {
	for _, length := range []int{40, 57, 58, 100, 1000, 1 << 20} {
		zeros := strings.Repeat("0", length)
		for _, sign := range []string{"", "-"} {
			refused(t, sign+"1"+zeros, api.ErrOverflow)
			refused(t, sign+"1"+zeros+"x", api.ErrSyntax)
			refused(t, sign+"9x"+zeros, api.ErrSyntax)
			refused(t, sign+zeros, api.ErrSyntax)
			refused(t, sign+"0"+zeros+"1", api.ErrSyntax)
		}
	}
}

// P1.10
func TestParseOfText(t *testing.T) {
	for _, a := range wides() {
		s := wide.Text(a)
		if back, e := wide.Parse(s); back != a || e != api.OK {
			t.Fatalf("Parse of Text of %v: %v and error %d", a, back, e)
		}
		for _, other := range []string{"0" + s, "+" + s, " " + s, s + " ", "-0" + strings.TrimPrefix(s, "-"), s + "."} {
			refused(t, other, api.ErrSyntax)
		}
	}
}

// P1.10: every text that is accepted is the decimal form of its number.
func TestTextOfParse(t *testing.T) {
	const bytes = "0019-+ x"
	texts := []string{""}
	for range 4 {
		for _, s := range texts {
			for _, c := range bytes {
				texts = append(texts, s+string(c))
			}
		}
	}
	for _, s := range texts {
		a, e := wide.Parse(s)
		if e == api.OK && wide.Text(a) != s {
			t.Fatalf("Parse accepts %q, but the decimal form is %s", s, wide.Text(a))
		}
	}
}
