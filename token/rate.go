package token

import (
	"strconv"
	"strings"

	"corebank/api"
)

// places is the greatest number of digits behind the point of a percentage; onePercent is 10 to the power of it, the parts per million of 1%.
const (
	places     = 4
	onePercent = 10000
)

// Rate returns the parts per million of a percentage.
func Rate(s string) (int, api.Errno) {
	value, ok := strings.CutSuffix(s, "%")
	if !ok {
		return 0, api.ErrSyntax
	}
	before, behind, pointed := strings.Cut(value, ".")
	if !numeral(before) || pointed && !decimals(behind) {
		return 0, api.ErrSyntax
	}
	// With all places behind it, the point can be left out.
	ppm, err := strconv.Atoi(before + behind + strings.Repeat("0", places-len(behind)))
	if err != nil || ppm > api.MaxPpm {
		// The form is right, so Atoi has only the size to complain of.
		return 0, api.ErrArg
	}
	return ppm, api.OK
}

// decimals reports whether a text can stand behind the point of a percentage.
func decimals(s string) bool {
	return len(s) <= places && digits(s) && s[len(s)-1] != '0'
}

// Percent returns the percentage of parts per million.
func Percent(ppm int) (string, api.Errno) {
	if ppm < 0 || ppm > api.MaxPpm {
		return "", api.ErrArg
	}
	percentage := strconv.Itoa(ppm / onePercent)
	// The 1 before it, which is cut off, keeps the zeros behind the point.
	behind := strconv.Itoa(onePercent + ppm%onePercent)[1:]
	behind = strings.TrimRight(behind, "0")
	if behind != "" {
		percentage += "." + behind
	}
	return percentage + "%", api.OK
}
