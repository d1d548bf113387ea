package wire

import (
	"strconv"
	"strings"

	"corebank/api"
)

// Int returns the decimal form of a number.
func Int(n int) string { return strconv.Itoa(n) }

// TakeInt returns the number with a decimal form.
func TakeInt(s string) (int, api.Errno) {
	if !decimal(s) {
		return 0, api.ErrSyntax
	}
	n, err := strconv.Atoi(s)
	if err != nil {
		// The form is right, so only the size can be wrong.
		return 0, api.ErrOverflow
	}
	return n, api.OK
}

// decimal reports whether s is the decimal form of an integer of any size. strconv also accepts signs and zeros that could be left out.
func decimal(s string) bool {
	digits, negative := strings.CutPrefix(s, "-")
	if digits == "" || digits[0] == '0' {
		return digits == "0" && !negative
	}
	for at := range len(digits) {
		if digits[at] < '0' || digits[at] > '9' {
			return false
		}
	}
	return true
}
