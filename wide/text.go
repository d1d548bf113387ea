package wide

import (
	"strconv"
	"strings"

	"corebank/api"
)

// Digits are read and written in blocks, the longest ones of which every one fits into 64 bits.
const (
	blockDigits        = 19
	blockPower  uint64 = 10000000000000000000
)

// Text returns the decimal form.
func Text(a api.Wide) string {
	m, negative := split(a)
	if negative {
		return "-" + m.text()
	}
	return m.text()
}

// Parse returns the number with the decimal form s.
func Parse(s string) (api.Wide, api.Errno) {
	digits, negative := strings.CutPrefix(s, "-")
	if !shortest(digits, negative) {
		return api.Wide{}, api.ErrSyntax
	}
	m, problem := readDigits(digits)
	if problem != api.OK {
		return api.Wide{}, problem
	}
	return join(m, negative)
}

// shortest reports whether nothing could be left out: there are no leading zeros, and zero is not negative.
func shortest(digits string, negative bool) bool {
	if digits == "" {
		return false
	}
	return digits[0] != '0' || len(digits) == 1 && !negative
}

// readDigits returns the magnitude with these digits. All of them are examined before an overflow is reported, because a wrong byte is the first error.
func readDigits(digits string) (magnitude, api.Errno) {
	var m magnitude
	fits := true
	at := 0
text:
	for at < len(digits) {
		block, power := uint64(0), uint64(1)
		for end := min(at+blockDigits, len(digits)); at < end; at++ {
			c := digits[at]
			if c < '0' || c > '9' {
				break text
			}
			block, power = block*10+uint64(c-'0'), power*10
		}
		if fits {
			m, fits = m.timesPlus(power, block)
		}
	}
	switch {
	case at < len(digits):
		return magnitude{}, api.ErrSyntax
	case !fits:
		return magnitude{}, api.ErrOverflow
	}
	return m, api.OK
}

// text returns the decimal digits.
func (m magnitude) text() string {
	if m.hi == 0 {
		return strconv.FormatUint(m.lo, 10)
	}
	blocks, rest := m.divide(blockPower)
	block := strconv.FormatUint(rest, 10)
	// Within a number the zeros before a block count.
	return blocks.text() + strings.Repeat("0", blockDigits-len(block)) + block
}
