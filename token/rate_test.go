package token_test

import (
	"fmt"
	"math"
	"strings"
	"testing"

	"corebank/api"
	"corebank/token"
)

// P9.4
func TestRate(t *testing.T) {
	for s, want := range map[string]int{
		"0%": 0, "0.0001%": 1, "0.001%": 10, "0.01%": 100, "0.1%": 1000, "1%": 10000, "1.5%": 15000, "1.05%": 10500, "1.005%": 10050, "1.0005%": 10005, "1.2345%": 12345, "10%": 100000, "12.34%": 123400, "9.9999%": 99999, "0.9999%": 9999, "50%": 500000, "99%": 990000, "99.9999%": 999999, "100%": 1000000,
	} {
		if ppm, problem := token.Rate(s); ppm != want || problem != api.OK {
			t.Errorf("Rate(%q) is %d, %d; want %d", s, ppm, problem, want)
		}
		if back, problem := token.Percent(want); back != s || problem != api.OK {
			t.Errorf("Percent(%d) is %q, %d; want %q", want, back, problem, s)
		}
	}
}

// noRate requires an error for a text, and no parts per million.
func noRate(t *testing.T, s string, want api.Errno) {
	t.Helper()
	if ppm, problem := token.Rate(s); ppm != 0 || problem != want {
		t.Errorf("Rate(%.60q) of %d bytes is %d, %d; want %d", s, len(s), ppm, problem, want)
	}
}

// P9.4
func TestRateSyntax(t *testing.T) {
	for _, s := range []string{
		"", "%", "0", "1", "100", "1.5", ".%", ".5%", ".0%", "1.%", "0.%", "00%", "01%", "000%", "00.5%", "01.5%", "0100%", "1.0%", "0.0%", "0.00%", "1.50%", "1.500%", "1.5000%", "0.0000%", "0.00010%", "0.00001%", "1.23456%", "1.12345678901234567890%", "100.0%", "100.00001%", "101.0%",
		"+1%", "-1%", "-0%", "+0%", "--1%", "+1.5%", "-1.5%", "1.+5%", "1.-5%", "1-%", "1+%", " 1%", "1% ", "1 %", "1. 5%", "1 .5%", "\t1%", "1%\n", "\n1%", "1\n%", "1.5 %", "1.5%#",
		"1%%", "%1", "%1%", "1%1", "1%.5", "1.5%%", "1..5%", "1.5.5%", "..5%", "1.5.%", "1,5%", "1_0%", "1_%", "_1%", "0x1%", "0b1%", "1e1%", "1E1%", "1.5e1%", "a%", "1a%", "a1%", "1.a%", "1.5a%", "NaN%", "Inf%", "inf%", "1/2%", "1.5‰", "1％", "１%", "٣%", "½%", "é%", "\xff%", "1\xff%", "\x00%", "1\x00%", "1%\x00", "1.5% 1.5%",
		"9223372036854775808", "18446744073709551616", "0" + strings.Repeat("9", 40) + "%", strings.Repeat("9", 40) + ".0%", strings.Repeat("9", 40) + ".12345%", strings.Repeat("9", 40) + "a%", "1." + strings.Repeat("1", 1<<20) + "%", strings.Repeat("0", 1<<20) + "%", strings.Repeat("1", 1<<20), strings.Repeat("%", 1<<20), strings.Repeat("a", 1<<20) + "%",
	} {
		noRate(t, s, api.ErrSyntax)
	}
}

// P9.4: percentages of more than 100%, of any length.
func TestRateGreat(t *testing.T) {
	for _, s := range []string{
		"100.0001%", "100.001%", "100.1%", "100.9999%", "101%", "110%", "199.9999%", "200%", "999%", "1000%", "1000.0001%", "10000%", "1000000%", "922337203685477%", "922337203685477.5807%", "922337203685477.5808%", "922337203685478%", "1844674407370955.1616%", "1844674407370955.1617%", "1844674407370955%",
		"9223372036854775807%", "9223372036854775808%", "18446744073709551615%", "18446744073709551616%", "18446744073709551617%", "340282366920938463463374607431768211456%", "1" + strings.Repeat("0", 40) + "%", strings.Repeat("9", 2048) + "%", strings.Repeat("9", 1<<20) + ".0001%", "1" + strings.Repeat("0", 1<<20) + "%",
	} {
		noRate(t, s, api.ErrArg)
	}
}

// P9.4: every byte at every place.
func TestRateWithEachByte(t *testing.T) {
	for _, s := range []string{"0%", "1.5%", "99.9999%", "100%", "100.0001%", "12345678901234567890.1234%"} {
		for b := range 256 {
			c := string([]byte{byte(b)})
			for at := range len(s) + 1 {
				checkRate(t, s[:at]+c+s[at:])
				checkRate(t, s[:at])
				if at < len(s) {
					checkRate(t, s[:at]+c+s[at+1:])
				}
			}
		}
	}
}

// P9.4, P9.5: every short text of bytes that matter; what Rate accepts is the Percent of its result.
func TestRateShortTexts(t *testing.T) {
	for _, bytes := range []string{"01.%", "015.% -"} {
		most := 9
		if len(bytes) > 4 {
			most = 6
		}
		for _, s := range texts(bytes, most) {
			checkRate(t, s)
			ppm, problem := token.Rate(s)
			if problem != api.OK {
				continue
			}
			if back, problem := token.Percent(ppm); back != s || problem != api.OK {
				t.Errorf("Rate(%q) is %d, but its Percent is %q, %d", s, ppm, back, problem)
			}
		}
	}
}

// P9.4, P9.5: each number of parts per million, with the percentage that is reckoned from its decimal form.
func TestPercent(t *testing.T) {
	for ppm := 0; ppm <= 1000000; ppm++ {
		want := fmt.Sprintf("%d.%04d", ppm/10000, ppm%10000)
		want = strings.TrimSuffix(strings.TrimRight(want, "0"), ".") + "%"
		s, problem := token.Percent(ppm)
		if s != want || problem != api.OK {
			t.Fatalf("Percent(%d) is %q, %d; want %q", ppm, s, problem, want)
		}
		if back, problem := token.Rate(s); back != ppm || problem != api.OK {
			t.Fatalf("Rate(%q) is %d, %d; want %d", s, back, problem, ppm)
		}
		// Other spellings of the same value are no percentages.
		if ppm%997 == 0 {
			checkRate(t, "0"+s)
			checkRate(t, strings.TrimSuffix(s, "%")+"0%")
			checkRate(t, strings.TrimSuffix(s, "%")+".0%")
			checkRate(t, strings.TrimSuffix(s, "%"))
		}
		if ppm%97 == 0 {
			found(t, s, of(api.TkRate, 1, s))
		}
	}
}

// P9.4
func TestPercentOutside(t *testing.T) {
	for _, ppm := range []int{-1, -2, -10000, -1000000, -1 << 32, math.MinInt, math.MinInt + 1, 1000001, 1000002, 1010000, 2000000, 1 << 32, 1<<32 + 1, math.MaxInt - 1, math.MaxInt} {
		if s, problem := token.Percent(ppm); s != "" || problem != api.ErrArg {
			t.Errorf("Percent(%d) is %q, %d", ppm, s, problem)
		}
	}
}
