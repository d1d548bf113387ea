package token

import "slices"

// The kinds of runes.
const (
	other = iota // in marks, or nowhere
	blank
	feed
	hash
	letter         // begins words and names, and goes on in them
	digit          // begins numbers, and goes on everywhere
	underscore     // goes on where letters do
	pointOrPercent // goes on in numbers
)

// kind returns the kind of a rune. Letters of other alphabets are bytes from 128 on, which have no kind of their own.
func kind(r rune) int {
	switch {
	case r >= 'a' && r <= 'z':
		return letter
	case r >= '0' && r <= '9':
		return digit
	}
	switch r {
	case ' ', '\t':
		return blank
	case '\n':
		return feed
	case '#':
		return hash
	case '_':
		return underscore
	case '.', '%':
		return pointOrPercent
	}
	return other
}

// span returns the number of bytes of these kinds at the beginning of a text.
func span(s string, kinds ...int) int {
	for at := range len(s) {
		if !slices.Contains(kinds, kind(rune(s[at]))) {
			return at
		}
	}
	return len(s)
}

// digits reports whether a text consists of digits, of which there is at least one.
func digits(s string) bool { return s != "" && span(s, digit) == len(s) }

// numeral reports whether a text consists of digits without leading zeros.
func numeral(s string) bool { return digits(s) && (s == "0" || s[0] != '0') }
