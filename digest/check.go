package digest

import "corebank/api"

// modulus is the prime by which the values of texts are divided.
const modulus = 97

// checkDigits is the number of digits that Seal appends.
const checkDigits = 2

// Mod97 returns the remainder of a text of digits and letters modulo 97.
func Mod97(s string) (int, api.Errno) {
	if len(s) < 1 || len(s) > api.MaxKey {
		return 0, api.ErrLimit
	}
	rest := 0
	for at := range len(s) {
		switch c := s[at]; {
		case c >= '0' && c <= '9':
			rest = (rest*10 + int(c-'0')) % modulus
		case c >= 'A' && c <= 'Z':
			// A letter counts as two digits.
			rest = (rest*100 + int(c-'A') + 10) % modulus
		default:
			return 0, api.ErrSyntax
		}
	}
	return rest, api.OK
}

// Seal appends two check digits.
func Seal(s string) (string, api.Errno) {
	if len(s) < 1 || len(s) > api.MaxKey-checkDigits {
		return "", api.ErrLimit
	}
	rest, problem := Mod97(s + "00")
	if problem != api.OK {
		return "", problem
	}
	// With these digits instead of 00 the remainder is 98, that is 1.
	check := byte(modulus + 1 - rest)
	return s + string([]byte{'0' + check/10, '0' + check%10}), api.OK
}

// Sealed reports whether the check digits are right.
func Sealed(s string) bool {
	if len(s) <= checkDigits {
		return false
	}
	rest, problem := Mod97(s)
	return problem == api.OK && rest == 1
}
