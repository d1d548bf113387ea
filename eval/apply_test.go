package eval_test

import (
	"fmt"
	"math"
	"slices"
	"strings"
	"testing"

	"corebank/api"
	"corebank/eval"
)

// P13.1: the examples 1 to 4.
func TestApplyExamples(t *testing.T) {
	gives(t, "mul", "amount 150, rate 10000", "amount 2")
	gives(t, "mul", "amount 250, rate 10000", "amount 2")
	gives(t, "mul", "amount 350, rate 10000", "amount 4")
	gives(t, "div", "number -7, number 2", "number -3")
	gives(t, "div", "amount -7, number 2", "amount -4")
	refuses(t, "add", "day 73048, number 1", api.ErrOverflow)
	refuses(t, "div", "number 5, number 0", api.ErrZero)
}

// P13.1: each operator with each combination of types that it takes.
func TestApplyTypes(t *testing.T) {
	for op, lines := range map[string]string{
		"add": "number 7, number -9: number -2; amount 7, amount 9: amount 16; rate 7, rate -7: rate 0; day 7, number 9: day 16; day 9, number -9: day 0",
		"sub": "number 7, number -9: number 16; amount 7, amount 9: amount -2; rate 7, rate 9: rate -2; day 9, number 7: day 2; day 7, number -9: day 16; day 9, day 7: number 2; day 7, day 9: number -2",
		"mul": "number 7, number -9: number -63; number -3, amount 5: amount -15; amount 5, number 4: amount 20; number 3, rate 5: rate 15; rate -5, number 4: rate -20; amount 2000000, rate 500: amount 1000; rate 500, amount 2000000: amount 1000",
		"div": "number 63, number 9: number 7; amount 63, number 9: amount 7; rate 63, number 9: rate 7; amount 63, amount 9: number 7",
		"neg": "number 7: number -7; amount -7: amount 7; rate 7: rate -7; number 0: number 0; amount 0: amount 0; rate 0: rate 0",
		"eq":  "number 7, number 7: bool 1; number 7, number 9: bool 0; amount 7, amount 7: bool 1; amount 7, amount -7: bool 0; rate 7, rate 7: bool 1; rate 7, rate 9: bool 0; day 7, day 7: bool 1; day 7, day 9: bool 0; bool 0, bool 0: bool 1; bool 1, bool 1: bool 1; bool 0, bool 1: bool 0; bool 1, bool 0: bool 0",
		"ne":  "number 7, number 7: bool 0; number 7, number 9: bool 1; amount 7, amount 7: bool 0; amount 7, amount -7: bool 1; rate 7, rate 7: bool 0; rate 7, rate 9: bool 1; day 7, day 7: bool 0; day 7, day 9: bool 1; bool 0, bool 0: bool 0; bool 1, bool 1: bool 0; bool 0, bool 1: bool 1; bool 1, bool 0: bool 1",
		"lt":  "number 7, number 7: bool 0; number 7, number 9: bool 1; number 9, number 7: bool 0; amount -7, amount 7: bool 1; amount 7, amount -7: bool 0; amount 7, amount 7: bool 0; rate 7, rate 8: bool 1; rate 8, rate 7: bool 0; rate 7, rate 7: bool 0; day 7, day 8: bool 1; day 8, day 7: bool 0; day 7, day 7: bool 0",
		"le":  "number 7, number 7: bool 1; number 7, number 9: bool 1; number 9, number 7: bool 0; amount -7, amount 7: bool 1; amount 7, amount -7: bool 0; amount 7, amount 7: bool 1; rate 7, rate 8: bool 1; rate 8, rate 7: bool 0; rate 7, rate 7: bool 1; day 7, day 8: bool 1; day 8, day 7: bool 0; day 7, day 7: bool 1",
		"and": "bool 0, bool 0: bool 0; bool 0, bool 1: bool 0; bool 1, bool 0: bool 0; bool 1, bool 1: bool 1",
		"or":  "bool 0, bool 0: bool 0; bool 0, bool 1: bool 1; bool 1, bool 0: bool 1; bool 1, bool 1: bool 1",
		"not": "bool 0: bool 1; bool 1: bool 0",
		"min": "number 7, number -9: number -9; number -9, number 7: number -9; amount 7, amount 9: amount 7; amount 9, amount 7: amount 7; rate 7, rate -7: rate -7; rate -7, rate 7: rate -7; day 7, day 9: day 7; day 9, day 7: day 7; number 5, number 5: number 5; amount -5, amount -5: amount -5; rate 5, rate 5: rate 5; day 5, day 5: day 5; day 0, day 0: day 0",
		"max": "number 7, number -9: number 7; number -9, number 7: number 7; amount 7, amount 9: amount 9; amount 9, amount 7: amount 9; rate 7, rate -7: rate 7; rate -7, rate 7: rate 7; day 7, day 9: day 9; day 9, day 7: day 9; number 5, number 5: number 5; amount -5, amount -5: amount -5; rate 5, rate 5: rate 5; day 5, day 5: day 5; day 0, day 0: day 0",
		"if":  "bool 1, number 7, number 9: number 7; bool 0, number 7, number 9: number 9; bool 1, amount 7, amount -9: amount 7; bool 0, amount 7, amount -9: amount -9; bool 1, rate 7, rate 9: rate 7; bool 0, rate 7, rate 9: rate 9; bool 1, day 7, day 9: day 7; bool 0, day 7, day 9: day 9; bool 1, bool 1, bool 0: bool 1; bool 0, bool 1, bool 0: bool 0; bool 1, bool 0, bool 1: bool 0; bool 0, bool 0, bool 1: bool 1; bool 0, bool 0, bool 0: bool 0",
	} {
		for line := range strings.SplitSeq(lines, ";") {
			args, want, _ := strings.Cut(line, ":")
			gives(t, op, args, want)
		}
	}
}

// P13.1: results at the limits of their types, and one beyond.
func TestApplyLimits(t *testing.T) {
	const most, fewest = math.MaxInt, math.MinInt
	// Numbers, with products that only wide numbers hold.
	for _, c := range []struct {
		op         string
		a, b, want int
	}{
		{"add", most - 1, 1, most}, {"add", most, 0, most}, {"add", most, -1, most - 1}, {"add", fewest + 1, -1, fewest}, {"add", fewest, most, -1}, {"add", most, fewest, -1},
		{"sub", most, 0, most}, {"sub", most - 1, -1, most}, {"sub", -1, fewest, most}, {"sub", -1, most, fewest}, {"sub", fewest, fewest, 0}, {"sub", most, most, 0}, {"sub", fewest, 0, fewest}, {"sub", fewest + 1, 1, fewest}, {"sub", 0, most, -most}, {"sub", -1, fewest, most},
		{"mul", most, 1, most}, {"mul", fewest, 1, fewest}, {"mul", 1, fewest, fewest}, {"mul", most, -1, -most}, {"mul", -1, most, -most}, {"mul", 1 << 31, 1 << 31, 1 << 62}, {"mul", 1 << 32, -1 << 31, fewest}, {"mul", -1 << 31, 1 << 32, fewest}, {"mul", 3037000499, 3037000499, 3037000499 * 3037000499}, {"mul", fewest, 0, 0}, {"mul", 0, most, 0}, {"mul", 7 * 7 * 73 * 127 * 337, 92737 * 649657, most},
		{"div", fewest, 1, fewest}, {"div", most, 1, most}, {"div", most, -1, -most}, {"div", fewest + 1, -1, most}, {"div", fewest, fewest, 1}, {"div", most, fewest, 0}, {"div", fewest + 1, fewest, 0}, {"div", fewest, most, -1}, {"div", -most, most, -1}, {"div", fewest, -most, 1}, {"div", 0, fewest, 0}, {"div", 1, fewest, 0}, {"div", -1, fewest, 0}, {"div", fewest, 2, -1 << 62}, {"div", fewest, -2, 1 << 62}, {"div", fewest, 3, -3074457345618258602}, {"div", fewest, -3, 3074457345618258602}, {"div", most, most, 1}, {"div", most - 1, most, 0},
		{"min", fewest, most, fewest}, {"max", fewest, most, most}, {"min", most, most, most}, {"max", fewest, fewest, fewest},
	} {
		gives(t, c.op, fmt.Sprintf("number %d, number %d", c.a, c.b), fmt.Sprintf("number %d", c.want))
	}
	for _, c := range []struct {
		op   string
		a, b int
	}{
		{"add", most, 1}, {"add", 1, most}, {"add", most, most}, {"add", fewest, -1}, {"add", -1, fewest}, {"add", fewest, fewest}, {"sub", most, -1}, {"sub", fewest, 1}, {"sub", 0, fewest}, {"sub", fewest, most}, {"sub", most, fewest}, {"sub", -2, most},
		{"mul", fewest, -1}, {"mul", -1, fewest}, {"mul", fewest, fewest}, {"mul", most, most}, {"mul", most, fewest}, {"mul", most, 2}, {"mul", fewest, 2}, {"mul", 1 << 32, 1 << 31}, {"mul", 1 << 32, 1 << 32}, {"mul", -1 << 32, 1<<31 + 1}, {"mul", 3037000500, 3037000500}, {"mul", 1 << 62, 4}, {"div", fewest, -1},
	} {
		refuses(t, c.op, fmt.Sprintf("number %d, number %d", c.a, c.b), api.ErrOverflow)
	}
	gives(t, "neg", fmt.Sprint("number ", most), fmt.Sprint("number ", -most))
	gives(t, "neg", fmt.Sprint("number ", fewest+1), fmt.Sprint("number ", most))
	refuses(t, "neg", fmt.Sprint("number ", fewest), api.ErrOverflow)
	// Amounts and rates.
	for kind, limit := range map[string]int{"amount": 1000000000000, "rate": 1000000000} {
		at := func(op, a, b string, want int) {
			t.Helper()
			args := fmt.Sprint(a, ", ", b)
			if want > limit || want < -limit {
				refuses(t, op, args, api.ErrOverflow)
			} else {
				gives(t, op, args, fmt.Sprint(kind, " ", want))
			}
		}
		v := func(n int) string { return fmt.Sprint(kind, " ", n) }
		n := func(n int) string { return fmt.Sprint("number ", n) }
		for _, sign := range []int{1, -1} {
			for by := -2; by <= 2; by++ {
				at("add", v(sign*limit), v(by), sign*limit+by)
				at("add", v(by), v(sign*limit), sign*limit+by)
				at("add", v(sign*limit/2), v(sign*limit/2+by), sign*limit+by)
				at("sub", v(sign*limit), v(by), sign*limit-by)
				at("sub", v(by), v(sign*limit), by-sign*limit)
				at("sub", v(sign*limit/2), v(-sign*limit/2+by), sign*limit-by)
				at("mul", v(sign*limit), n(by), sign*limit*by)
				at("mul", n(by), v(sign*limit), sign*limit*by)
				at("mul", v(sign), n(limit+by), sign*(limit+by))
				at("mul", n(-limit+by), v(sign), sign*(by-limit))
				at("mul", v(sign*(limit/4)), n(4+by), sign*(limit/4)*(4+by))
			}
			at("div", v(sign*limit), n(1), sign*limit)
			at("div", v(sign*limit), n(-1), -sign*limit)
			at("min", v(sign*limit), v(0), min(sign*limit, 0))
			at("max", v(0), v(sign*limit), max(sign*limit, 0))
			gives(t, "neg", v(sign*limit), v(-sign*limit))
			for _, far := range []int{most, fewest} {
				refuses(t, "mul", fmt.Sprint(v(sign), ", ", n(far)), api.ErrOverflow)
				refuses(t, "mul", fmt.Sprint(n(far), ", ", v(sign*limit)), api.ErrOverflow)
				gives(t, "mul", fmt.Sprint(n(far), ", ", v(0)), v(0))
				gives(t, "div", fmt.Sprint(v(sign*limit), ", ", n(far)), v(0))
				gives(t, "div", fmt.Sprint(v(sign), ", ", n(far)), v(0))
			}
		}
	}
}

// P13.1: days at the limits.
func TestApplyDays(t *testing.T) {
	for _, c := range []struct{ op, args, want string }{
		{"add", "day 0, number 0", "day 0"}, {"add", "day 0, number 73048", "day 73048"}, {"add", "day 73048, number 0", "day 73048"}, {"add", "day 73048, number -73048", "day 0"}, {"add", "day 73047, number 1", "day 73048"}, {"add", "day 1, number -1", "day 0"},
		{"sub", "day 0, number 0", "day 0"}, {"sub", "day 0, number -73048", "day 73048"}, {"sub", "day 73048, number 73048", "day 0"}, {"sub", "day 1, number 1", "day 0"}, {"sub", "day 73047, number -1", "day 73048"},
		{"sub", "day 0, day 73048", "number -73048"}, {"sub", "day 73048, day 0", "number 73048"}, {"sub", "day 73048, day 73048", "number 0"}, {"min", "day 0, day 73048", "day 0"}, {"max", "day 0, day 73048", "day 73048"}, {"le", "day 0, day 73048", "bool 1"}, {"eq", "day 73048, day 73048", "bool 1"},
	} {
		gives(t, c.op, c.args, c.want)
	}
	for _, number := range []int{73049, -1, math.MaxInt, math.MinInt, math.MaxInt - 73048, 1 << 32, -1 << 32} {
		for _, day := range []int{0, 1, 73048} {
			check(t, api.OpAdd, values(fmt.Sprintf("day %d, number %d", day, number)))
			check(t, api.OpSub, values(fmt.Sprintf("day %d, number %d", day, number)))
		}
	}
	for _, args := range []string{"day 73048, number 1", "day 0, number -1", "day 0, number 73049", "day 73048, number 9223372036854775807", "day 73048, number -9223372036854775808", "day 0, number -9223372036854775808"} {
		refuses(t, "add", args, api.ErrOverflow)
	}
	for _, args := range []string{"day 0, number 1", "day 73048, number -1", "day 73048, number 73049", "day 0, number 9223372036854775807", "day 0, number -9223372036854775808", "day 73048, number -9223372036854775808"} {
		refuses(t, "sub", args, api.ErrOverflow)
	}
}

// P13.1: products of amounts and rates at halves, above and below them.
func TestApplyShares(t *testing.T) {
	for _, c := range []struct{ amount, ppm, want int }{
		{1, 500000, 0}, {1, 500001, 1}, {1, 499999, 0}, {3, 500000, 2}, {3, 499999, 1}, {3, 500001, 2}, {5, 500000, 2}, {5, 500001, 3}, {5, 499999, 2}, {7, 500000, 4}, {1, 1500000, 2}, {1, 2500000, 2}, {1, 3500000, 4}, {1, 2500001, 3}, {1, 2499999, 2},
		{500000, 1, 0}, {500001, 1, 1}, {1500000, 1, 2}, {1500001, 1, 2}, {1499999, 1, 1}, {2500000, 1, 2}, {2500001, 1, 3}, {499999, 1, 0}, {0, 1000000000, 0}, {1000000000000, 0, 0}, {1, 1, 0}, {1, 1000000, 1}, {1, 1000000000, 1000},
		{1000000000000, 1000000, 1000000000000}, {1000000000000, 999999, 999999000000}, {1000000000, 1000000000, 1000000000000}, {999999999999, 1000000, 999999999999}, {1000000000, 999999999, 999999999000}, {500000000000, 2000000, 1000000000000}, {1000000000000, 1, 1000000}, {999999500000, 1000001, 1000000500000 - 1},
	} {
		for _, signs := range [][2]int{{1, 1}, {1, -1}, {-1, 1}, {-1, -1}} {
			amount, ppm, want := signs[0]*c.amount, signs[1]*c.ppm, fmt.Sprint("amount ", signs[0]*signs[1]*c.want)
			if c.want > 1000000000000 {
				refuses(t, "mul", fmt.Sprintf("amount %d, rate %d", amount, ppm), api.ErrOverflow)
				continue
			}
			gives(t, "mul", fmt.Sprintf("amount %d, rate %d", amount, ppm), want)
			gives(t, "mul", fmt.Sprintf("rate %d, amount %d", ppm, amount), want)
		}
	}
	// Only the rounded product has to be an amount.
	for _, c := range []struct {
		amount, ppm int
		fits        bool
	}{
		{1000000000, 1000000000, true}, {1000000001, 1000000000, false}, {1000000000000, 1000001, false}, {1000000000000, 1000000000, false}, {999999000001, 1000001, true}, {999999000002, 1000001, false}, {999999000000, 1000001, true}, {333333333333, 3000003, false}, {800000000000, 1250000, true}, {800000000001, 1250000, false}, {1600000000, 625000000, true}, {999999999999, 1000001, false},
		// 10^12 and 0.5, 0.001 or 0.75
		{666666666667, 1500000, true}, {999000999001, 1001000, true}, {571428571429, 1750000, false},
	} {
		for _, signs := range [][2]int{{1, 1}, {1, -1}, {-1, 1}, {-1, -1}} {
			args := values(fmt.Sprintf("amount %d, rate %d", signs[0]*c.amount, signs[1]*c.ppm))
			check(t, api.OpMul, args)
			if _, problem := eval.Apply(api.OpMul, args); (problem == api.OK) != c.fits {
				t.Errorf("Apply of mul to %v is %d", args, problem)
			}
		}
	}
	for amount := range 45 {
		for ppm := 0; ppm < 4000000; ppm += 50000 {
			for _, near := range []int{-1, 0, 1} {
				for _, signs := range [][2]int{{1, 1}, {1, -1}, {-1, 1}, {-1, -1}} {
					check(t, api.OpMul, []api.Value{{Type: api.TyAmount, N: signs[0] * amount}, {Type: api.TyRate, N: signs[1] * (ppm + near)}})
				}
			}
		}
	}
}

// P13.1: quotients of amounts and of rates by numbers, to the nearest one.
func TestApplyNearest(t *testing.T) {
	for _, c := range []struct{ dividend, divisor, want int }{
		{1, 2, 0}, {3, 2, 2}, {5, 2, 2}, {7, 2, 4}, {9, 2, 4}, {1, 3, 0}, {2, 3, 1}, {4, 3, 1}, {5, 3, 2}, {7, 3, 2}, {8, 3, 3}, {5, 10, 0}, {15, 10, 2}, {25, 10, 2}, {35, 10, 4}, {4, 10, 0}, {6, 10, 1}, {14, 10, 1}, {16, 10, 2}, {24, 10, 2}, {26, 10, 3}, {0, 5, 0}, {5, 5, 1}, {6, 1, 6}, {2, 4, 0}, {6, 4, 2}, {10, 4, 2}, {14, 4, 4},
		{999999999, 2, 500000000}, {1000000000, 3, 333333333}, {999999999, 2000000000, 0}, {1000000000, 2000000000, 0}, {1000000000, 1999999999, 1}, {1000000000, 2000000001, 0}, {1000000000, 1000000001, 1}, {1000000000, math.MaxInt, 0}, {1, math.MaxInt, 0}, {0, math.MaxInt, 0}, {1, 1 << 32, 0}, {1000000000, 1 << 31, 0}, {1000000000, 1 << 30, 1},
	} {
		for _, signs := range [][2]int{{1, 1}, {1, -1}, {-1, 1}, {-1, -1}} {
			for _, kind := range []string{"amount", "rate"} {
				gives(t, "div", fmt.Sprintf("%s %d, number %d", kind, signs[0]*c.dividend, signs[1]*c.divisor), fmt.Sprint(kind, " ", signs[0]*signs[1]*c.want))
			}
		}
	}
	for _, c := range []struct{ dividend, divisor, want int }{
		{1000000000000, 2000000000000, 0}, {1000000000000, 1999999999999, 1}, {999999999999, 2, 500000000000}, {999999999997, 2, 499999999998}, {1000000000000, math.MinInt, 0}, {-1000000000000, math.MinInt, 0}, {1, math.MinInt, 0}, {0, math.MinInt, 0}, {-1000000000000, -1, 1000000000000}, {1000000000000, math.MinInt + 1, 0}, {1000000000000, 7, 142857142857}, {1000000000000, -3, -333333333333},
	} {
		gives(t, "div", fmt.Sprintf("amount %d, number %d", c.dividend, c.divisor), fmt.Sprint("amount ", c.want))
	}
	gives(t, "div", fmt.Sprint("rate 1000000000, number ", math.MinInt), "rate 0")
	for dividend := -60; dividend <= 60; dividend++ {
		for divisor := -30; divisor <= 30; divisor++ {
			for _, kind := range []int{api.TyNumber, api.TyAmount, api.TyRate} {
				check(t, api.OpDiv, []api.Value{{Type: kind, N: dividend}, {Type: api.TyNumber, N: divisor}})
			}
			check(t, api.OpDiv, []api.Value{{Type: api.TyAmount, N: dividend}, {Type: api.TyAmount, N: divisor}})
		}
	}
}

// P13.1: quotients of numbers, and of amounts, toward zero.
func TestApplyTowardZero(t *testing.T) {
	for _, c := range []struct{ dividend, divisor, want int }{
		{7, 2, 3}, {1, 2, 0}, {3, 2, 1}, {5, 2, 2}, {8, 3, 2}, {19, 10, 1}, {99, 100, 0}, {100, 100, 1}, {199, 100, 1}, {200, 100, 2}, {0, 3, 0}, {999999999999, 1000000000000, 0}, {1000000000000, 999999999999, 1}, {1000000000000, 1, 1000000000000}, {1000000000000, 3, 333333333333},
	} {
		for _, signs := range [][2]int{{1, 1}, {1, -1}, {-1, 1}, {-1, -1}} {
			for _, kind := range []string{"number", "amount"} {
				gives(t, "div", fmt.Sprintf("%s %d, %s %d", kind, signs[0]*c.dividend, kind, signs[1]*c.divisor), fmt.Sprint("number ", signs[0]*signs[1]*c.want))
			}
		}
	}
}

// P13.1: a division by 0.
func TestApplyZero(t *testing.T) {
	for _, args := range []string{"number 0, number 0", "number 1, number 0", "number -1, number 0", "number 9223372036854775807, number 0", "number -9223372036854775808, number 0", "amount 0, number 0", "amount 5, number 0", "amount -1000000000000, number 0", "rate 0, number 0", "rate 5, number 0", "amount 0, amount 0", "amount 5, amount 0", "amount 1000000000000, amount 0"} {
		refuses(t, "div", args, api.ErrZero)
	}
	gives(t, "div", "number 0, number 1", "number 0")
	gives(t, "div", "amount 0, amount -1", "number 0")
	gives(t, "mul", "number 0, number 0", "number 0")
}

// P13.1: types that an operator does not take, too few and too many operands, and operators that are none.
func TestApplyRefused(t *testing.T) {
	some := values("number 3, amount 3, rate 3, day 3, bool 1")
	// The last two are no values of their types; the type comes first.
	some = append(some, api.Value{Type: 0, N: 1}, api.Value{Type: 6, N: 1}, api.Value{Type: -1}, api.Value{Type: math.MaxInt, N: 1}, api.Value{Type: 1<<32 + 1, N: 1}, value("bool 2"), value("day -1"))
	refused := 0
	for op := -2; op <= 22; op++ {
		for _, first := range some {
			for _, second := range some {
				for _, args := range [][]api.Value{nil, {}, {first}, {first, second}, {second, first, first}, {second, first, second}, {first, second, second, second}} {
					check(t, op, args)
					if _, problem := eval.Apply(op, args); problem == api.ErrType {
						refused++
					}
				}
			}
		}
	}
	if refused < 10000 {
		t.Errorf("%d are refused", refused)
	}
	for _, op := range []int{0, -1, api.OpNum, api.OpCash, api.OpRate, api.OpVar, 20, 99, -api.OpAdd, 256 + api.OpAdd, 1<<32 + api.OpAdd, math.MaxInt, math.MinInt} {
		for count := range 5 {
			requires(t, op, slices.Repeat(values("number 1"), count), api.Value{}, api.ErrType)
		}
	}
	for op := range operators {
		refuses(t, op, "", api.ErrType)
		refuses(t, op, "number 1, number 1, number 1, number 1", api.ErrType)
		refuses(t, op, "bool 1, bool 1, bool 1, bool 1", api.ErrType)
		requires(t, operators[op], slices.Repeat(values("bool 1"), 1<<20), api.Value{}, api.ErrType)
	}
	for _, c := range []struct{ op, args string }{
		{"add", "number 1, amount 1"}, {"add", "number 1, day 1"}, {"add", "day 1, day 1"}, {"sub", "number 1, day 1"}, {"mul", "amount 1, amount 1"}, {"mul", "rate 1, rate 1"}, {"div", "number 1, amount 0"}, {"div", "rate 1, rate 0"}, {"div", "day 1, number 0"}, {"neg", "day 1"}, {"neg", "bool 1"}, {"neg", "number 1, number 1"}, {"eq", "number 1, amount 1"}, {"lt", "bool 1, bool 1"}, {"le", "bool 2, bool 1"}, {"and", "bool 1, number 1"}, {"or", "bool 1"}, {"not", "number 1"}, {"min", "bool 1, bool 0"}, {"max", "day 1, number 1"}, {"if", "bool 1, number 1, amount 1"}, {"if", "number 1, number 1, number 1"}, {"if", "bool 1, number 1"}, {"add", "number 1"}, {"div", "number 0"}, {"not", "bool 1, bool 1"}, {"add", "bool 2, bool 2"},
	} {
		refuses(t, c.op, c.args, api.ErrType)
	}
}

// P13.1: numbers that are not values of their types, also together with a division by 0 and with results that are too large.
func TestApplyNoValues(t *testing.T) {
	for _, c := range []struct{ op, args string }{
		{"add", "amount 1000000000001, amount 0"}, {"add", "amount 0, amount 1000000000001"}, {"add", "amount -1000000000001, amount 1"}, {"add", "amount 1, amount -1000000000001"}, {"sub", "rate 1000000001, rate 1"}, {"sub", "rate 1, rate -1000000001"}, {"add", "day -1, number 1"}, {"add", "day 73049, number -1"}, {"sub", "day 73049, day 73049"}, {"sub", "day 0, day -1"}, {"sub", "day 73049, number 1"},
		{"mul", "amount 1000000000001, number 0"}, {"mul", "number 0, rate 1000000001"}, {"mul", "amount 0, rate 1000000001"}, {"mul", "rate 0, amount -1000000000001"}, {"mul", "amount 9223372036854775807, number 2"}, {"neg", "amount 1000000000001"}, {"neg", "rate -1000000001"}, {"neg", "amount -9223372036854775808"},
		{"div", "amount 1000000000001, number 0"}, {"div", "amount 1000000000001, amount 0"}, {"div", "amount 0, amount 1000000000001"}, {"div", "rate 1000000001, number 0"}, {"div", "rate -1000000001, number 0"}, {"div", "amount -9223372036854775808, amount -1"}, {"div", "amount 2000000000000, number 2"},
		{"eq", "bool 2, bool 2"}, {"eq", "bool 0, bool 2"}, {"ne", "bool -1, bool 0"}, {"eq", "amount 1000000000001, amount 1000000000001"}, {"lt", "day -1, day 0"}, {"le", "day 0, day 73049"}, {"lt", "rate 0, rate 1000000001"}, {"and", "bool 2, bool 1"}, {"and", "bool 0, bool 2"}, {"and", "bool 0, bool -1"}, {"or", "bool 1, bool 2"}, {"or", "bool -1, bool 1"}, {"not", "bool 2"}, {"not", "bool -1"},
		{"min", "amount 0, amount 1000000000001"}, {"max", "amount 0, amount -1000000000001"}, {"min", "day 0, day 73049"}, {"max", "day 0, day -1"}, {"min", "rate 1000000001, rate 0"}, {"if", "bool 2, number 1, number 2"}, {"if", "bool -1, number 1, number 2"}, {"if", "bool 1, amount 1, amount 1000000000001"}, {"if", "bool 0, amount 1000000000001, amount 1"}, {"if", "bool 1, day 1, day -1"}, {"if", "bool 0, bool 2, bool 1"}, {"if", "bool 1, bool 1, bool -1"},
	} {
		refuses(t, c.op, c.args, api.ErrArg)
	}
}

// edges are numbers near to the limits of a type, some of them beyond.
func edges(kind int) []api.Value {
	numbers := []int{math.MinInt, math.MinInt + 1, math.MaxInt - 1, math.MaxInt, 1 << 32, -3, -2, -1, 0, 1, 2, 3, 500000, 1500000}
	for _, limit := range []int{least[kind-1], greatest[kind-1], least[kind-1] / 2, greatest[kind-1] / 2} {
		for by := -1; by <= 1; by++ {
			numbers = append(numbers, limit+by)
		}
	}
	slices.Sort(numbers)
	var l []api.Value
	for _, n := range slices.Compact(numbers) {
		l = append(l, api.Value{Type: kind, N: n})
	}
	return l
}

// P13.1: each operator with numbers near to the limits.
func TestApplyEdges(t *testing.T) {
	var all []api.Value
	for _, kind := range kinds {
		all = append(all, edges(kind)...)
	}
	for op := api.OpAdd; op <= api.OpIf; op++ {
		for _, a := range all {
			check(t, op, []api.Value{a})
			for _, b := range all {
				check(t, op, []api.Value{a, b})
			}
		}
	}
	for truth := -1; truth <= 2; truth++ {
		for i, a := range all {
			for _, b := range all[max(0, i-7):min(len(all), i+7)] {
				check(t, api.OpIf, []api.Value{{Type: api.TyBool, N: truth}, a, b})
			}
		}
	}
}
