package eval

import (
	"math"

	"corebank/api"
	"corebank/rounding"
	"corebank/typing"
	"corebank/wide"
)

// million is the number of parts of which a rate counts some.
const million = 1000000

// Apply applies an operator.
func Apply(op int, args []api.Value) (api.Value, api.Errno) {
	kind, ok := typing.Result(op, types(args))
	if !ok {
		return api.Value{}, api.ErrType
	}
	for _, one := range args {
		if !proper(one) {
			return api.Value{}, api.ErrArg
		}
	}
	if op == api.OpDiv && args[1].N == 0 {
		return api.Value{}, api.ErrZero
	}
	n, fits := wide.Int(result(op, args))
	v := api.Value{Type: kind, N: n}
	if !fits || !proper(v) {
		return api.Value{}, api.ErrOverflow
	}
	return v, api.OK
}

// types returns the types of values.
func types(values []api.Value) []int {
	l := make([]int, 0, len(values))
	for _, one := range values {
		l = append(l, one.Type)
	}
	return l
}

// result returns the number that an operator leads to for values that it takes. It is wide because it may be too large.
func result(op int, args []api.Value) api.Wide {
	first := args[0]
	switch op {
	case api.OpNeg:
		return difference(0, first.N)
	case api.OpNot:
		return wide.Of(1 - first.N)
	case api.OpIf:
		if first.N == 0 {
			return wide.Of(args[2].N)
		}
		return wide.Of(args[1].N)
	}
	return joined(op, first, args[1])
}

// joined returns the number that an operator with two operands leads to.
func joined(op int, a, b api.Value) api.Wide {
	switch op {
	case api.OpAdd:
		return sum(a.N, b.N)
	case api.OpSub:
		return difference(a.N, b.N)
	case api.OpMul:
		return product(a, b)
	case api.OpDiv:
		return quotient(a, b)
	case api.OpMin:
		return wide.Of(min(a.N, b.N))
	case api.OpMax:
		return wide.Of(max(a.N, b.N))
	}
	if holds(op, a.N, b.N) {
		return wide.Of(1)
	}
	return wide.Of(0)
}

// holds reports whether a comparison is true, or an operator of two bools.
func holds(op, a, b int) bool {
	switch op {
	case api.OpEq:
		return a == b
	case api.OpNe:
		return a != b
	case api.OpLt:
		return a < b
	case api.OpLe:
		return a <= b
	case api.OpAnd:
		return a == 1 && b == 1
	}
	return a == 1 || b == 1
}

// sum returns a plus b.
func sum(a, b int) api.Wide {
	// There is no error, here and in difference: two ints are far from the greatest wide number.
	n, _ := wide.Add(wide.Of(a), wide.Of(b))
	return n
}

// difference returns a minus b.
func difference(a, b int) api.Wide {
	n, _ := wide.Sub(wide.Of(a), wide.Of(b))
	return n
}

// product returns the product of two values, which is rounded if one of them is an amount and the other one a rate.
func product(a, b api.Value) api.Wide {
	exact := wide.Mul(a.N, b.N)
	if a.Type == api.TyNumber || b.Type == api.TyNumber {
		return exact
	}
	// There is no error: the greatest quotient is a thousand times api.MaxAmount.
	n, _ := rounding.Divide(exact, million, api.RoHalfEven)
	return wide.Of(n)
}

// quotient returns the quotient of two values, of which the second one is not 0.
func quotient(a, b api.Value) api.Wide {
	if a.Type == b.Type {
		return truncated(a.N, b.N)
	}
	return wide.Of(nearest(a.N, b.N))
}

// truncated returns the quotient of two ints, rounded toward zero.
func truncated(dividend, divisor int) api.Wide {
	// Only for -1 the quotient may be no int.
	if divisor == -1 {
		return difference(0, dividend)
	}
	return wide.Of(dividend / divisor)
}

// nearest returns the quotient of the number of an amount or of a rate and an int, rounded to the nearest int, halves to the even one.
func nearest(dividend, divisor int) int {
	// The least int has no opposite, but the dividend is so small that all divisors near it lead to 0.
	divisor = max(divisor, -math.MaxInt)
	if divisor < 0 {
		dividend, divisor = -dividend, -divisor
	}
	// There is no error: the divisor is at least 1, and the quotient not farther from 0 than the dividend.
	n, _ := rounding.Divide(wide.Of(dividend), divisor, api.RoHalfEven)
	return n
}
