package date

import (
	"strconv"

	"corebank/api"
)

// The text of a day has digits and the dashes at these places.
const (
	textBytes = 10
	dash1     = 4
	dash2     = 7
)

// Format returns the text of a day.
func Format(day int) string {
	if !Valid(day) {
		return ""
	}
	year, month, dayOfMonth := Civil(day)
	// The years of all days have four digits.
	return strconv.Itoa(year) + "-" + twoDigits(month) + "-" + twoDigits(dayOfMonth)
}

// twoDigits returns the two digits of a number from 0 to 99.
func twoDigits(n int) string {
	if n < 10 {
		return "0" + strconv.Itoa(n)
	}
	return strconv.Itoa(n)
}

// Parse returns the day with a text.
func Parse(s string) (int, api.Errno) {
	if !shaped(s) {
		return 0, api.ErrSyntax
	}
	return Day(number(s[:dash1]), number(s[dash1+1:dash2]), number(s[dash2+1:]))
}

// shaped reports whether dashes and digits are where the text of a day has them.
func shaped(s string) bool {
	if len(s) != textBytes {
		return false
	}
	for at := range len(s) {
		if at == dash1 || at == dash2 {
			if s[at] != '-' {
				return false
			}
		} else if s[at] < '0' || s[at] > '9' {
			return false
		}
	}
	return true
}

// number returns the number with these few digits, which may begin with zeros.
func number(digits string) int {
	n := 0
	for at := range len(digits) {
		n = n*10 + int(digits[at]-'0')
	}
	return n
}
