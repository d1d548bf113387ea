package digest_test

import (
	"fmt"
	"strings"
	"testing"

	"corebank/api"
	"corebank/digest"
)

// P8.3
func TestMod97(t *testing.T) {
	for s, want := range map[string]int{
		"0": 0, "1": 1, "9": 9, "A": 10, "Z": 35, "00": 0, "10": 10, "96": 96, "97": 0, "98": 1, "193": 96, "194": 0, "195": 1, "9409": 0, "0097": 0, "B0": 13, "ZZ": 43, "CB00001000": 121100001000 % 97, "CB0000100000": 65, "CB0000100033": 1, "GB82WEST12345698765432": 85,
		strings.Repeat("0", 48): 0, strings.Repeat("9", 48): 95, strings.Repeat("Z", 48): 0, strings.Repeat("Z", 46): 6, strings.Repeat("9", 46): 31, strings.Repeat("A9", 24): 2,
	} {
		if n, problem := digest.Mod97(s); n != want || problem != api.OK {
			t.Errorf("Mod97(%q) is %d, %d; want %d", s, n, problem, want)
		}
	}
	for _, s := range codes() {
		checkMod97(t, s)
	}
}

// P8.3: all remainders occur, so 0, 1 and 96 do.
func TestMod97EachRemainder(t *testing.T) {
	var found [97]bool
	for n := range 97 {
		for _, factor := range []int{0, 1, 2, 103, 1 << 40} {
			s := fmt.Sprint(n + 97*factor)
			if rest, problem := digest.Mod97(s); rest != n || problem != api.OK {
				t.Errorf("Mod97(%q) is %d, %d; want %d", s, rest, problem, n)
			}
		}
	}
	for _, a := range capitals {
		for _, b := range capitals + numerals {
			rest, _ := digest.Mod97(string(a) + string(b))
			found[rest] = true
		}
	}
	for rest, ok := range found {
		if !ok {
			t.Errorf("no text of two bytes has the remainder %d", rest)
		}
	}
}

// noText requires errors for a text, and no other results.
func noText(t *testing.T, s string, ofMod97, ofSeal api.Errno) {
	t.Helper()
	if n, problem := digest.Mod97(s); n != 0 || problem != ofMod97 {
		t.Errorf("Mod97(%.60q) of %d bytes is %d, %d; want %d", s, len(s), n, problem, ofMod97)
	}
	if sealed, problem := digest.Seal(s); sealed != "" || problem != ofSeal {
		t.Errorf("Seal(%.60q) of %d bytes is %.60q, %d; want %d", s, len(s), sealed, problem, ofSeal)
	}
	if digest.Sealed(s) {
		t.Errorf("Sealed(%.60q) of %d bytes is true", s, len(s))
	}
}

// P8.3, P8.4, P8.5: no bytes, and too many.
func TestLimits(t *testing.T) {
	noText(t, "", api.ErrLimit, api.ErrLimit)
	for _, c := range numerals + capitals {
		for _, size := range []int{49, 50, 64, 100, api.MaxText, 1 << 20} {
			noText(t, strings.Repeat(string(c), size), api.ErrLimit, api.ErrLimit)
		}
		for _, size := range []int{1, 2, 45, 46, 47, 48} {
			checkText(t, strings.Repeat(string(c), size))
		}
	}
	// Its value modulo 97 is 1, but it is too long.
	if s := strings.Repeat("0", api.MaxKey) + "1"; digest.Sealed(s) || !digest.Sealed(s[1:]) {
		t.Errorf("Sealed(%q) or Sealed(%q) is wrong", s, s[1:])
	}
	for _, bytes := range []string{numerals, capitals, numerals + capitals} {
		for _, s := range written(bytes, api.MaxKey+1, 200) {
			noText(t, s, api.ErrLimit, api.ErrLimit)
			checkText(t, s[:api.MaxKey])
			checkText(t, s[:api.MaxKey-1])
			checkText(t, s[:api.MaxKey-2])
		}
	}
}

// P8.3, P8.4, P8.5
func TestSyntax(t *testing.T) {
	for _, s := range []string{
		"a", "z", "aA", "Aa", "cb00001000", "CB0000100o", "CB00001000x", "é", "É", "Ä1", "日本", "０", "Ａ", "٣", "\x00", "\xff", "\xc3", " ", "  ", " 1", "1 ", "A B", "\t1", "1\n", "\n", "CB0000 1000", "CB00001000 33", " CB0000100033", "CB0000100033 ", "CB0000100033\n",
		"-", "+", "-1", "+1", "1-1", "--1", "-98", "+98", "1.0", "1,0", ".", "1_0", "0x1", "1e3", "/", ":", "@", "[", "`", "{", "!", "CB-0000100033", "CB000010003\x00", "cb0000100033",
	} {
		noText(t, s, api.ErrSyntax, api.ErrSyntax)
	}
}

// P8.3, P8.4, P8.5: every byte, alone and at every place of texts that have a value.
func TestEachByte(t *testing.T) {
	for b := range 256 {
		c := string([]byte{byte(b)})
		checkText(t, c)
		for _, s := range []string{"98", "CB0000100033", "Z", strings.Repeat("9", 46), strings.Repeat("A", 48), strings.Repeat("0", 47) + "1"} {
			for place := range len(s) {
				checkText(t, s[:place]+c+s[place+1:])
				checkText(t, s[:place]+c+s[place:])
			}
			checkText(t, s+c)
		}
	}
}

// P8.3, P8.4: a text that is too long counts more than a byte that is wrong; Seal leaves room for two digits.
func TestFirstError(t *testing.T) {
	for _, wrong := range []string{"a", " ", "-", "\x00", "\xff", ":"} {
		for _, c := range []struct {
			size            int
			ofMod97, ofSeal api.Errno
		}{{0, api.ErrSyntax, api.ErrSyntax}, {44, api.ErrSyntax, api.ErrSyntax}, {45, api.ErrSyntax, api.ErrSyntax}, {46, api.ErrSyntax, api.ErrLimit}, {47, api.ErrSyntax, api.ErrLimit}, {48, api.ErrLimit, api.ErrLimit}, {49, api.ErrLimit, api.ErrLimit}, {2000, api.ErrLimit, api.ErrLimit}} {
			zeros := strings.Repeat("0", c.size)
			noText(t, wrong+zeros, c.ofMod97, c.ofSeal)
			noText(t, zeros+wrong, c.ofMod97, c.ofSeal)
			noText(t, zeros[:c.size/2]+wrong+zeros[c.size/2:], c.ofMod97, c.ofSeal)
			noText(t, strings.Repeat(wrong, c.size+1), c.ofMod97, c.ofSeal)
		}
	}
}

// P8.4
func TestSeal(t *testing.T) {
	for s, want := range map[string]string{
		"CB00001000": "CB0000100033", "CB00001001": "CB0000100130", "CB00009999": "CB0000999902", "AB12CD": "AB12CD89", "0": "098", "1": "195", "9": "971", "A": "A68", "Z": "Z90", "97": "9798", "ZZ": "ZZ66", "00": "0098",
		strings.Repeat("0", 46): strings.Repeat("0", 46) + "98", strings.Repeat("9", 46): strings.Repeat("9", 46) + "05", strings.Repeat("Z", 46): strings.Repeat("Z", 46) + "80",
	} {
		if sealed, problem := digest.Seal(s); sealed != want || problem != api.OK {
			t.Errorf("Seal(%q) is %q, %d; want %q", s, sealed, problem, want)
		}
	}
	for _, s := range codes() {
		checkSeal(t, s)
	}
}

// P8.4: all check digits from 02 to 98 occur, and no others.
func TestSealEachCheck(t *testing.T) {
	found := map[string]string{}
	for n := range 970 {
		s := fmt.Sprint(n)
		sealed, problem := digest.Seal(s)
		if problem != api.OK || len(sealed) != len(s)+2 {
			t.Fatalf("Seal(%q) is %q, %d", s, sealed, problem)
		}
		found[sealed[len(s):]] = s
	}
	for check := 2; check <= 98; check++ {
		if _, ok := found[fmt.Sprintf("%02d", check)]; !ok {
			t.Errorf("no text has the check digits %02d", check)
		}
	}
	if len(found) != 97 {
		t.Errorf("there are %d pairs of check digits", len(found))
	}
}

// P8.5
func TestSealed(t *testing.T) {
	for s, want := range map[string]bool{
		"CB0000100033": true, "CB0000100032": false, "CB0000100034": false, "CB0000100130": true, "CB0000100100": false, "AB12CD89": true, "098": true, "097": false, "195": true, "A68": true, "ZZ66": true, "Z90": true,
		// Fewer than 3 bytes, although the remainder is 1.
		"": false, "1": false, "01": false, "98": false, "001": true, "0098": true, strings.Repeat("0", 47) + "1": true, strings.Repeat("0", 46) + "98": true,
		// Letters at the end, where Seal writes digits.
		"LZ": false, "0LZ": true, "LZ0": false, "MW": false, "00MW": true, "00A": false, "00AA": false,
		// The digits 01, 00 and 99 are never written by Seal, but leave the same remainders as 98, 97 and 02.
		"9798": true, "9701": true, "9702": false, "9799": false, "6597": true, "6500": true, "6501": false, "3202": true, "3299": true, "3200": false,
	} {
		if digest.Sealed(s) != want || want && remainder(s) != 1 {
			t.Errorf("Sealed(%q) is %t", s, !want)
		}
	}
	for _, s := range codes() {
		checkSealed(t, s)
	}
	for _, s := range texts("01789ABX", 5) {
		checkSealed(t, s)
	}
}

// P8.6
func TestSealIsSealed(t *testing.T) {
	for _, s := range codes() {
		if len(s) > api.MaxKey-2 {
			continue
		}
		if sealed, problem := digest.Seal(s); problem != api.OK || !digest.Sealed(sealed) {
			t.Errorf("Seal(%q) is %q, %d, and not sealed", s, sealed, problem)
		}
	}
}

// replaced returns a text with another byte at a place.
func replaced(s string, place int, c rune) string {
	return s[:place] + string(c) + s[place+1:]
}

// P8.6: each digit is replaced by each other one, and each letter.
func TestReplaced(t *testing.T) {
	for _, s := range codes() {
		if len(s) > api.MaxKey-2 {
			continue
		}
		sealed, _ := digest.Seal(s)
		for place := range len(sealed) {
			others := numerals
			if sealed[place] >= 'A' {
				others = capitals
			}
			for _, c := range others {
				if other := replaced(sealed, place, c); digest.Sealed(other) != (other == sealed) {
					t.Errorf("Sealed(%q) is wrong; the text was %q", other, sealed)
				}
			}
		}
	}
}

// P8.5, P8.6: texts that are sealed, but were not returned by Seal, are protected as well.
func TestReplacedInAnySealedText(t *testing.T) {
	for _, s := range texts("0129ABXZ", 5) {
		if !digest.Sealed(s) {
			continue
		}
		for place := range len(s) {
			others := numerals
			if s[place] >= 'A' {
				others = capitals
			}
			for _, c := range others {
				if other := replaced(s, place, c); other != s && digest.Sealed(other) {
					t.Errorf("%q and %q are both sealed", s, other)
				}
			}
		}
	}
}
