package wide

import (
	"math/bits"

	"corebank/api"
)

// magnitude is an integer of 128 bits without a sign.
// Products, quotients and texts are computed with magnitudes, because the least wide number has one and has no opposite.
type magnitude struct{ hi, lo uint64 }

// split returns the magnitude of a number, and whether the number is negative.
func split(a api.Wide) (magnitude, bool) {
	m := magnitude{hi: uint64(a.Hi), lo: a.Lo}
	if a.Hi < 0 {
		return m.negated(), true
	}
	return m, false
}

// join returns the number with a magnitude and a sign.
func join(m magnitude, negative bool) (api.Wide, api.Errno) {
	least := magnitude{hi: 1 << 63}
	if m.hi >= least.hi && !(negative && m == least) {
		return api.Wide{}, api.ErrOverflow
	}
	if negative {
		m = m.negated()
	}
	return api.Wide{Hi: int(m.hi), Lo: m.lo}, api.OK
}

// negated returns the complement: 2^128 minus m, or 0 for 0.
func (m magnitude) negated() magnitude {
	lo, borrow := bits.Sub64(0, m.lo, 0)
	hi, _ := bits.Sub64(0, m.hi, borrow)
	return magnitude{hi: hi, lo: lo}
}

// timesPlus returns m * factor + summand, and whether this is a magnitude.
func (m magnitude) timesPlus(factor, summand uint64) (magnitude, bool) {
	middle, lo := bits.Mul64(m.lo, factor)
	over, hi := bits.Mul64(m.hi, factor)
	lo, carry := bits.Add64(lo, summand, 0)
	hi, carry = bits.Add64(hi, middle, carry)
	if over != 0 || carry != 0 {
		return magnitude{}, false
	}
	return magnitude{hi: hi, lo: lo}, true
}

// divide returns the quotient, rounded down, and the remainder. The divisor must not be 0.
func (m magnitude) divide(divisor uint64) (magnitude, uint64) {
	// The remainder of the first step is less than the divisor, as the second step requires.
	hi, rest := m.hi/divisor, m.hi%divisor
	lo, rest := bits.Div64(rest, m.lo, divisor)
	return magnitude{hi: hi, lo: lo}, rest
}
