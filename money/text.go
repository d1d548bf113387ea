package money

import (
	"strconv"
	"strings"

	"corebank/api"
)

// Format returns the text of an amount.
func Format(amount, digits int) (string, api.Errno) {
	if !Valid(amount) || !validDigits(digits) {
		return "", api.ErrArg
	}
	sign := ""
	if amount < 0 {
		sign = "-"
	}
	// An amount has an opposite, because it is far from the least int.
	return sign + pointed(strconv.Itoa(max(amount, -amount)), digits), api.OK
}

// pointed returns a decimal number of minor units with a point before its last digits.
func pointed(number string, digits int) string {
	if digits == 0 {
		return number
	}
	// At least one digit is before the point.
	number = strings.Repeat("0", max(0, digits+1-len(number))) + number
	point := len(number) - digits
	return number[:point] + "." + number[point:]
}

// Parse returns the amount with a text.
func Parse(s string, digits int) (int, api.Errno) {
	if !validDigits(digits) {
		return 0, api.ErrArg
	}
	unsigned, negative := strings.CutPrefix(s, "-")
	whole, fraction, found := cut(unsigned, digits)
	if !found || !shortest(whole) || !decimal(whole) || !decimal(fraction) {
		return 0, api.ErrSyntax
	}
	amount := capped(capped(0, whole), fraction)
	switch {
	case negative && amount == 0:
		return 0, api.ErrSyntax
	case !Valid(amount):
		return 0, api.ErrOverflow
	case negative:
		return -amount, api.OK
	}
	return amount, api.OK
}

// cut returns what is before and behind the point, and whether a point is where the number of digits requires it.
func cut(s string, digits int) (whole, fraction string, found bool) {
	if digits == 0 {
		return s, "", true
	}
	point := len(s) - digits - 1
	if point < 0 || s[point] != '.' {
		return "", "", false
	}
	return s[:point], s[point+1:], true
}

// shortest reports whether the whole part of a number has digits, and no leading zeros.
func shortest(whole string) bool {
	return whole == "0" || whole != "" && whole[0] != '0'
}

// decimal reports whether s consists of digits.
func decimal(s string) bool {
	for at := range len(s) {
		if s[at] < '0' || s[at] > '9' {
			return false
		}
	}
	return true
}

// capped returns the number that digits behind a number make of it, or the least number that is no amount, if that is less: a text has any length, and the number of a long one is no int.
func capped(number int, digits string) int {
	for at := range len(digits) {
		number = min(number*10+int(digits[at]-'0'), api.MaxAmount+1)
	}
	return number
}
