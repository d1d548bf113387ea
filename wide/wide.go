// Package wide is layer 1: integers of 128 bits. See shared/doc/01-wide.md.
package wide

import (
	"cmp"
	"math/bits"

	"corebank/api"
)

// Of is the number n.
func Of(n int) api.Wide {
	// The shift keeps the sign: it gives 0 or -1.
	return api.Wide{Hi: n >> 63, Lo: uint64(n)}
}

// Add returns the sum of a and b.
func Add(a, b api.Wide) (api.Wide, api.Errno) {
	lo, carry := bits.Add64(a.Lo, b.Lo, 0)
	hi := a.Hi + b.Hi + int(carry)
	// Only two numbers of the same sign can have a sum that is too large; it then appears with the other sign.
	if (a.Hi^hi)&(b.Hi^hi) < 0 {
		return api.Wide{}, api.ErrOverflow
	}
	return api.Wide{Hi: hi, Lo: lo}, api.OK
}

// Sub returns a minus b.
func Sub(a, b api.Wide) (api.Wide, api.Errno) {
	// Adding -b would fail for the least number, which has no opposite.
	lo, borrow := bits.Sub64(a.Lo, b.Lo, 0)
	hi := a.Hi - b.Hi - int(borrow)
	if (a.Hi^b.Hi)&(a.Hi^hi) < 0 {
		return api.Wide{}, api.ErrOverflow
	}
	return api.Wide{Hi: hi, Lo: lo}, api.OK
}

// Mul returns the product of a and b.
func Mul(a, b int) api.Wide {
	// There is no error: the greatest product is 2^126, that of the least int with itself.
	product, _ := Scale(Of(a), b)
	return product
}

// Scale returns a times n.
func Scale(a api.Wide, n int) (api.Wide, api.Errno) {
	m, negative := split(a)
	factor, opposite := split(Of(n))
	product, fits := m.timesPlus(factor.lo, 0)
	if !fits {
		return api.Wide{}, api.ErrOverflow
	}
	return join(product, negative != opposite)
}

// Div returns the quotient of a and n, rounded toward negative infinity, and the remainder.
func Div(a api.Wide, n int) (api.Wide, int, api.Errno) {
	if n < 1 {
		return api.Wide{}, 0, api.ErrArg
	}
	divisor := uint64(n)
	m, negative := split(a)
	quotient, rest := m.divide(divisor)
	// The quotient of the magnitudes is rounded toward zero, which for a negative number is up.
	if negative && rest != 0 {
		quotient, _ = quotient.timesPlus(1, 1)
		rest = divisor - rest
	}
	// There is no error: the quotient is not farther from zero than a.
	floor, _ := join(quotient, negative)
	return floor, int(rest), api.OK
}

// Cmp returns -1, 0 or 1.
func Cmp(a, b api.Wide) int {
	if order := cmp.Compare(a.Hi, b.Hi); order != 0 {
		return order
	}
	return cmp.Compare(a.Lo, b.Lo)
}

// Int returns the number as an int, if it fits.
func Int(a api.Wide) (int, bool) {
	n := int(a.Lo)
	if Of(n) != a {
		return 0, false
	}
	return n, true
}
