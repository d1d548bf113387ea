package rounding_test

import (
	"math"
	"math/big"
	"math/rand/v2"
	"testing"

	"corebank/api"
	"corebank/rounding"
	"corebank/wide"
)

var (
	greatest = api.Wide{Hi: math.MaxInt, Lo: math.MaxUint64}
	least    = api.Wide{Hi: math.MinInt}
)

// modes are the six modes in the order of the columns of the tables below.
var modes = [6]int{api.RoDown, api.RoUp, api.RoFloor, api.RoCeil, api.RoHalfUp, api.RoHalfEven}

// noModes are numbers next to those of the modes, and far from them.
var noModes = []int{0, 7, -1, -6, 8, 100, 1 << 32, 1<<32 + 1, math.MinInt, math.MinInt + 1, math.MaxInt}

// seeded gives the same numbers in every run.
func seeded() *rand.Rand { return rand.New(rand.NewPCG(2, 2)) }

// exact is the value of a wide number.
func exact(a api.Wide) *big.Int {
	high := new(big.Int).Lsh(big.NewInt(int64(a.Hi)), 64)
	return high.Add(high, new(big.Int).SetUint64(a.Lo))
}

// number returns the wide number with an exact value, and whether there is one.
func number(x *big.Int) (api.Wide, bool) {
	lo := new(big.Int).And(x, new(big.Int).SetUint64(math.MaxUint64)).Uint64()
	hi := new(big.Int).Rsh(x, 64)
	return api.Wide{Hi: int(hi.Int64()), Lo: lo}, hi.IsInt64()
}

// rounded is the rounded quotient as the chapter defines it: one of the two integers next to the exact quotient.
func rounded(a *big.Int, n, mode int) *big.Int {
	divisor := big.NewInt(int64(n))
	lesser, remainder := new(big.Int).DivMod(a, divisor, new(big.Int))
	if remainder.Sign() == 0 {
		return lesser
	}
	greater := new(big.Int).Add(lesser, big.NewInt(1))
	nearZero, farFromZero := lesser, greater
	if a.Sign() < 0 {
		nearZero, farFromZero = greater, lesser
	}
	order := new(big.Int).Lsh(remainder, 1).Cmp(divisor)
	switch {
	case mode == api.RoFloor:
		return lesser
	case mode == api.RoCeil:
		return greater
	case mode == api.RoDown:
		return nearZero
	case mode == api.RoUp:
		return farFromZero
	case order < 0:
		return lesser
	case order > 0:
		return greater
	case mode == api.RoHalfUp:
		return farFromZero
	case lesser.Bit(0) == 0:
		return lesser
	}
	return greater
}

// divisors are small ones, the ones the program uses, and edges; odd and even ones.
func divisors() []int {
	return []int{1, 2, 3, 4, 5, 7, 10, 11, 100, 360, 365, 1000000, api.Year, api.Grain, api.MaxAmount,
		1<<31 - 1, 1 << 31, 1 << 32, 1<<32 + 1, 1 << 61, 1 << 62, 1<<62 + 1, math.MaxInt - 2, math.MaxInt - 1, math.MaxInt}
}

// dividends are numbers that a divisor divides exactly, and numbers around exact halves and around integers, with quotients near 0 and near the edges of int; and the edges of the wide numbers.
func dividends(n int) []api.Wide {
	l := []api.Wide{least, greatest, {}, wide.Of(1), wide.Of(-1), wide.Of(math.MaxInt), wide.Of(math.MinInt), {Lo: 1 << 63}, {Hi: 1}, {Hi: -1}}
	divisor := big.NewInt(int64(n))
	for _, quotient := range []int{0, 1, 2, 3, 4, 5, 999, 1000, api.MaxAmount, math.MaxInt - 2, math.MaxInt - 1, math.MaxInt, -1, -2, -3, -4, -1000, -api.MaxAmount, math.MinInt + 2, math.MinInt + 1, math.MinInt} {
		whole := new(big.Int).Mul(big.NewInt(int64(quotient)), divisor)
		for _, more := range []int{0, 1, 2, n / 2, n/2 - 1, n/2 + 1, n - 1, n} {
			for _, offset := range []int{more, -more} {
				if a, is := number(new(big.Int).Add(whole, big.NewInt(int64(offset)))); is {
					l = append(l, a)
				}
			}
		}
	}
	random := seeded()
	for length := range 64 {
		l = append(l, api.Wide{Hi: int(random.Uint64()) >> length, Lo: random.Uint64()})
	}
	return l
}

// eachDivision calls check for all dividends, divisors and modes above.
func eachDivision(check func(a api.Wide, n, mode int)) {
	for _, n := range divisors() {
		for _, a := range dividends(n) {
			for _, mode := range modes {
				check(a, n, mode)
			}
		}
	}
}

// P2.1
func TestValid(t *testing.T) {
	for i, mode := range modes {
		if mode != i+1 || !rounding.Valid(mode) {
			t.Errorf("%d is a mode", mode)
		}
	}
	for _, mode := range noModes {
		if rounding.Valid(mode) {
			t.Errorf("%d is no mode", mode)
		}
	}
}

// P2.2: the table of the modes, with halves of both signs, quotients between -1 and 1, and even and odd neighbors.
func TestDivideTable(t *testing.T) {
	for _, x := range []struct {
		a, n int
		want [6]int // in the order of modes
	}{
		{5, 2, [6]int{2, 3, 2, 3, 3, 2}},
		{-5, 2, [6]int{-2, -3, -3, -2, -3, -2}},
		{7, 2, [6]int{3, 4, 3, 4, 4, 4}},
		{-7, 2, [6]int{-3, -4, -4, -3, -4, -4}},
		{6, 2, [6]int{3, 3, 3, 3, 3, 3}},
		{-6, 2, [6]int{-3, -3, -3, -3, -3, -3}},
		{0, 3, [6]int{}},
		{1, 2, [6]int{0, 1, 0, 1, 1, 0}},
		{-1, 2, [6]int{0, -1, -1, 0, -1, 0}},
		{1, 3, [6]int{0, 1, 0, 1, 0, 0}},
		{-1, 3, [6]int{0, -1, -1, 0, 0, 0}},
		{2, 3, [6]int{0, 1, 0, 1, 1, 1}},
		{-2, 3, [6]int{0, -1, -1, 0, -1, -1}},
		{3, 2, [6]int{1, 2, 1, 2, 2, 2}},
		{-3, 2, [6]int{-1, -2, -2, -1, -2, -2}},
		{10, 4, [6]int{2, 3, 2, 3, 3, 2}},
		{9, 4, [6]int{2, 3, 2, 3, 2, 2}},
		{11, 4, [6]int{2, 3, 2, 3, 3, 3}},
		{-9, 4, [6]int{-2, -3, -3, -2, -2, -2}},
		{-11, 4, [6]int{-2, -3, -3, -2, -3, -3}},
		{1, math.MaxInt, [6]int{0, 1, 0, 1, 0, 0}},
		{-1, math.MaxInt, [6]int{0, -1, -1, 0, 0, 0}},
		{math.MaxInt - 1, math.MaxInt, [6]int{0, 1, 0, 1, 1, 1}},
		{1 << 61, 1 << 62, [6]int{0, 1, 0, 1, 1, 0}},
		{-1 << 61, 1 << 62, [6]int{0, -1, -1, 0, -1, 0}},
		{math.MinInt, math.MaxInt, [6]int{-1, -2, -2, -1, -1, -1}},
		{math.MaxInt, 1, [6]int{math.MaxInt, math.MaxInt, math.MaxInt, math.MaxInt, math.MaxInt, math.MaxInt}},
		{math.MinInt, 1, [6]int{math.MinInt, math.MinInt, math.MinInt, math.MinInt, math.MinInt, math.MinInt}},
	} {
		for i, mode := range modes {
			if q, e := rounding.Divide(wide.Of(x.a), x.n, mode); q != x.want[i] || e != api.OK {
				t.Errorf("Divide of %d by %d with mode %d: %d and error %d, not %d", x.a, x.n, mode, q, e, x.want[i])
			}
		}
	}
}

// P2.2
func TestDivide(t *testing.T) {
	eachDivision(func(a api.Wide, n, mode int) {
		want, problem := rounded(exact(a), n, mode), api.OK
		if !want.IsInt64() {
			want, problem = new(big.Int), api.ErrOverflow
		}
		if q, e := rounding.Divide(a, n, mode); int64(q) != want.Int64() || e != problem {
			t.Fatalf("Divide of %v by %d with mode %d: %d and error %d, not %v and error %d", a, n, mode, q, e, want, problem)
		}
	})
}

// P2.2: at the edges of int it is the rounded quotient that must be an int, not the exact one and not the lesser integer.
func TestDivideOverflow(t *testing.T) {
	const top, bottom = math.MaxInt, math.MinInt
	half, more := big.NewInt(1), big.NewInt(3)
	twice := new(big.Int).Lsh(big.NewInt(top), 1)
	twiceBottom := new(big.Int).Lsh(big.NewInt(bottom), 1)
	for _, x := range []struct {
		name string
		a    *big.Int
		want [6]int // in the order of modes; 0 stands for ErrOverflow
	}{
		{"top + 1/2", new(big.Int).Add(twice, half), [6]int{top, 0, top, 0, 0, 0}},
		{"top + 3/2", new(big.Int).Add(twice, more), [6]int{}},
		{"bottom - 1/2", new(big.Int).Sub(twiceBottom, half), [6]int{bottom, 0, 0, bottom, 0, bottom}},
		{"bottom - 3/2", new(big.Int).Sub(twiceBottom, more), [6]int{}},
	} {
		for i, mode := range modes {
			a, _ := number(x.a)
			problem := api.OK
			if x.want[i] == 0 {
				problem = api.ErrOverflow
			}
			if q, e := rounding.Divide(a, 2, mode); q != x.want[i] || e != problem {
				t.Errorf("Divide of twice %s by 2 with mode %d: %d and error %d, not %d and error %d", x.name, mode, q, e, x.want[i], problem)
			}
		}
	}
}

// P2.2: ErrArg comes before ErrOverflow.
func TestDivideArguments(t *testing.T) {
	refused := func(a api.Wide, n, mode int) {
		t.Helper()
		if q, e := rounding.Divide(a, n, mode); q != 0 || e != api.ErrArg {
			t.Errorf("Divide of %v by %d with mode %d: %d and error %d, not error %d", a, n, mode, q, e, api.ErrArg)
		}
	}
	for _, a := range []api.Wide{{}, wide.Of(6), wide.Of(-7), {Hi: 1}, least, greatest} {
		for _, n := range []int{0, -1, -2, math.MinInt} {
			for _, mode := range modes {
				refused(a, n, mode)
			}
			refused(a, n, 0)
			refused(a, n, 7)
		}
		for _, mode := range noModes {
			refused(a, 1, mode)
			refused(a, 2, mode)
			refused(a, math.MaxInt, mode)
		}
	}
}

// P2.8: the distance from the exact quotient, from the results alone.
func TestDivideDistance(t *testing.T) {
	eachDivision(func(a api.Wide, n, mode int) {
		q, e := rounding.Divide(a, n, mode)
		if e != api.OK {
			return
		}
		divisor := big.NewInt(int64(n))
		distance := new(big.Int).Mul(big.NewInt(int64(q)), divisor)
		distance.Sub(distance, exact(a)).Abs(distance)
		if distance.Cmp(divisor) >= 0 {
			t.Fatalf("Divide of %v by %d with mode %d: %d is 1 or more from the quotient", a, n, mode, q)
		}
		nearest := mode == api.RoHalfUp || mode == api.RoHalfEven
		if nearest && distance.Lsh(distance, 1).Cmp(divisor) > 0 {
			t.Fatalf("Divide of %v by %d with mode %d: %d is more than 1/2 from the quotient", a, n, mode, q)
		}
	})
}

// P2.9
func TestDivideNegated(t *testing.T) {
	opposite := map[int]int{api.RoDown: api.RoDown, api.RoUp: api.RoUp, api.RoFloor: api.RoCeil, api.RoCeil: api.RoFloor, api.RoHalfUp: api.RoHalfUp, api.RoHalfEven: api.RoHalfEven}
	eachDivision(func(a api.Wide, n, mode int) {
		negated, e := wide.Sub(api.Wide{}, a)
		if e != api.OK {
			return
		}
		q, problem := rounding.Divide(a, n, mode)
		r, other := rounding.Divide(negated, n, opposite[mode])
		// The least int has no opposite.
		if problem == api.OK && q != math.MinInt && (r != -q || other != api.OK) {
			t.Fatalf("Divide of %v by %d with mode %d: %d, but of the opposite %d and error %d", a, n, mode, q, r, other)
		}
	})
}

// P2.3
func TestAmountTable(t *testing.T) {
	day := 100000 * 15000 * 4392
	for _, x := range []struct {
		grains, mode, amount, rest int
	}{
		{day, api.RoHalfEven, 4, 175680000000},
		{day, api.RoUp, 5, -1427400000000},
		{-day, api.RoHalfEven, -4, -175680000000},
		{-day, api.RoFloor, -5, 1427400000000},
		{0, api.RoUp, 0, 0},
		{1, api.RoDown, 0, 1},
		{1, api.RoUp, 1, 1 - api.Grain},
		{-1, api.RoDown, 0, -1},
		{-1, api.RoFloor, -1, api.Grain - 1},
		{api.Grain, api.RoCeil, 1, 0},
		{api.Grain / 2, api.RoHalfEven, 0, api.Grain / 2},
		{api.Grain / 2, api.RoHalfUp, 1, -api.Grain / 2},
		{-api.Grain / 2, api.RoHalfUp, -1, api.Grain / 2},
		{api.Grain + api.Grain/2, api.RoHalfEven, 2, -api.Grain / 2},
		{math.MaxInt, api.RoDown, math.MaxInt / api.Grain, math.MaxInt % api.Grain},
		{math.MinInt, api.RoDown, math.MinInt / api.Grain, math.MinInt % api.Grain},
	} {
		amount, rest, e := rounding.Amount(wide.Of(x.grains), x.mode)
		if amount != x.amount || rest != wide.Of(x.rest) || e != api.OK {
			t.Errorf("Amount of %d with mode %d: %d, %v and error %d, not %d and %d", x.grains, x.mode, amount, rest, e, x.amount, x.rest)
		}
	}
}

// grains are numbers around whole and half amounts, most of all around the greatest and the least one, and edges of the wide numbers.
func grains() []api.Wide {
	l := dividends(api.Grain)
	grain := big.NewInt(api.Grain)
	for _, amount := range []int64{0, 1, 2, 12345, api.MaxAmount - 1, api.MaxAmount, api.MaxAmount + 1} {
		for _, sign := range []int64{1, -1} {
			whole := new(big.Int).Mul(big.NewInt(sign*amount), grain)
			for _, offset := range []int64{0, 1, -1, 2, -2, 1000, -1000, api.Grain / 2, -api.Grain / 2, api.Grain/2 - 1, 1 - api.Grain/2, api.Grain/2 + 1, -1 - api.Grain/2, api.Grain - 1, 1 - api.Grain} {
				a, _ := number(new(big.Int).Add(whole, big.NewInt(offset)))
				l = append(l, a)
			}
		}
	}
	return l
}

// P2.3
func TestAmount(t *testing.T) {
	limit := big.NewInt(api.MaxAmount)
	for _, a := range grains() {
		for _, mode := range modes {
			want, problem := rounded(exact(a), api.Grain, mode), api.OK
			left := new(big.Int).Mul(want, big.NewInt(api.Grain))
			left.Sub(exact(a), left)
			if want.CmpAbs(limit) > 0 {
				want, left, problem = new(big.Int), new(big.Int), api.ErrOverflow
			}
			amount, rest, e := rounding.Amount(a, mode)
			if int64(amount) != want.Int64() || exact(rest).Cmp(left) != 0 || e != problem {
				t.Fatalf("Amount of %v with mode %d: %d, %v and error %d, not %v, %v and error %d", a, mode, amount, rest, e, want, left, problem)
			}
		}
	}
}

// P2.3: the errors; that of a mode comes first.
func TestAmountErrors(t *testing.T) {
	refused := func(a api.Wide, mode int, want api.Errno) {
		t.Helper()
		if amount, rest, e := rounding.Amount(a, mode); amount != 0 || rest != (api.Wide{}) || e != want {
			t.Errorf("Amount of %v with mode %d: %d, %v and error %d, not error %d", a, mode, amount, rest, e, want)
		}
	}
	most := wide.Mul(api.MaxAmount, api.Grain)
	more, _ := wide.Add(most, wide.Of(1))
	fewest := wide.Mul(-api.MaxAmount, api.Grain)
	fewer, _ := wide.Sub(fewest, wide.Of(1))
	for _, mode := range noModes {
		for _, a := range []api.Wide{{}, wide.Of(5), wide.Of(-5), most, more, fewer, least, greatest} {
			refused(a, mode, api.ErrArg)
		}
	}
	for _, mode := range modes {
		refused(greatest, mode, api.ErrOverflow)
		refused(least, mode, api.ErrOverflow)
		refused(wide.Mul(api.MaxAmount+1, api.Grain), mode, api.ErrOverflow)
		refused(wide.Mul(-api.MaxAmount-1, api.Grain), mode, api.ErrOverflow)
		for _, edge := range []api.Wide{most, fewest} {
			if amount, rest, e := rounding.Amount(edge, mode); exact(wide.Mul(amount, api.Grain)).Cmp(exact(edge)) != 0 || rest != (api.Wide{}) || e != api.OK {
				t.Errorf("Amount of %v with mode %d: %d, %v and error %d", edge, mode, amount, rest, e)
			}
		}
	}
	refused(more, api.RoUp, api.ErrOverflow)
	refused(more, api.RoCeil, api.ErrOverflow)
	refused(fewer, api.RoUp, api.ErrOverflow)
	refused(fewer, api.RoFloor, api.ErrOverflow)
}

// amounts are the edges of the valid ones, small ones, and ones that are not round.
func amounts() []int {
	l := []int{0}
	for _, n := range []int{1, 2, 3, 7, 50, 99, 100, 150, 250, 1005, 1250, 123456789, 500000000000, 999999999949, 999999999950, 999999999951, api.MaxAmount - 1, api.MaxAmount} {
		l = append(l, n, -n)
	}
	return l
}

// noAmounts are numbers next to the valid amounts, and far from them.
var noAmounts = []int{api.MaxAmount + 1, -api.MaxAmount - 1, 2 * api.MaxAmount, math.MaxInt, math.MinInt, math.MinInt + 1}

// P2.4
func TestPercent(t *testing.T) {
	for _, x := range []struct{ amount, ppm, mode, want int }{
		{1005, 5000, api.RoUp, 6},
		{1005, 5000, api.RoHalfEven, 5},
		{-1005, 5000, api.RoUp, -6},
		{-1005, 5000, api.RoCeil, -5},
		{100, 5000, api.RoHalfEven, 0},
		{100, 5000, api.RoHalfUp, 1},
		{300, 5000, api.RoHalfEven, 2},
		{1, 1, api.RoUp, 1},
		{1, 999999, api.RoDown, 0},
		{api.MaxAmount, api.MaxPpm, api.RoDown, api.MaxAmount},
		{-api.MaxAmount, api.MaxPpm, api.RoUp, -api.MaxAmount},
		{api.MaxAmount, 0, api.RoUp, 0},
	} {
		if got, e := rounding.Percent(x.amount, x.ppm, x.mode); got != x.want || e != api.OK {
			t.Errorf("Percent of %d with %d ppm and mode %d: %d and error %d, not %d", x.amount, x.ppm, x.mode, got, e, x.want)
		}
	}
	for _, amount := range amounts() {
		for _, ppm := range []int{0, 1, 2, 3, 4999, 5000, 15000, 333333, 500000, 500001, 999999, api.MaxPpm} {
			for _, mode := range modes {
				product := new(big.Int).Mul(big.NewInt(int64(amount)), big.NewInt(int64(ppm)))
				want := rounded(product, 1000000, mode)
				if got, e := rounding.Percent(amount, ppm, mode); int64(got) != want.Int64() || e != api.OK {
					t.Fatalf("Percent of %d with %d ppm and mode %d: %d and error %d, not %v", amount, ppm, mode, got, e, want)
				}
			}
		}
	}
}

// P2.4
func TestPercentErrors(t *testing.T) {
	refused := func(amount, ppm, mode int) {
		t.Helper()
		if got, e := rounding.Percent(amount, ppm, mode); got != 0 || e != api.ErrArg {
			t.Errorf("Percent of %d with %d ppm and mode %d: %d and error %d, not error %d", amount, ppm, mode, got, e, api.ErrArg)
		}
	}
	for _, mode := range modes {
		for _, amount := range noAmounts {
			refused(amount, 0, mode)
			refused(amount, 1, mode)
			refused(amount, api.MaxPpm, mode)
		}
		for _, amount := range []int{0, 1, -1, 100, api.MaxAmount, -api.MaxAmount} {
			for _, ppm := range []int{-1, api.MaxPpm + 1, math.MaxInt, math.MinInt} {
				refused(amount, ppm, mode)
			}
		}
	}
	for _, mode := range noModes {
		refused(0, 0, mode)
		refused(100, 5000, mode)
		refused(api.MaxAmount, api.MaxPpm, mode)
	}
}

// P2.6
func TestStep(t *testing.T) {
	for _, x := range []struct{ amount, step, mode, want int }{
		{1250, 100, api.RoHalfUp, 1300},
		{1250, 100, api.RoHalfEven, 1200},
		{-1250, 100, api.RoHalfUp, -1300},
		{-1250, 100, api.RoHalfEven, -1200},
		{1350, 100, api.RoHalfEven, 1400},
		{-1201, 100, api.RoDown, -1200},
		{-1201, 100, api.RoFloor, -1300},
		{1201, 100, api.RoUp, 1300},
		{1, api.MaxAmount, api.RoUp, api.MaxAmount},
		{-1, api.MaxAmount, api.RoUp, -api.MaxAmount},
		{api.MaxAmount - 1, api.MaxAmount, api.RoDown, 0},
		{api.MaxAmount, api.MaxAmount, api.RoDown, api.MaxAmount},
		{api.MaxAmount, 1, api.RoUp, api.MaxAmount},
		{api.MaxAmount, 7, api.RoDown, api.MaxAmount - 1},
		{-api.MaxAmount, 7, api.RoCeil, 1 - api.MaxAmount},
	} {
		if got, e := rounding.Step(x.amount, x.step, x.mode); got != x.want || e != api.OK {
			t.Errorf("Step of %d with the step %d and mode %d: %d and error %d, not %d", x.amount, x.step, x.mode, got, e, x.want)
		}
	}
}

// P2.6
func TestStepOfAll(t *testing.T) {
	for _, amount := range amounts() {
		for _, step := range []int{1, 2, 3, 7, 100, 500, 1000003, 600000000000, 999999999998, api.MaxAmount - 1, api.MaxAmount} {
			for _, mode := range modes {
				want, problem := rounded(big.NewInt(int64(amount)), step, mode), api.OK
				want.Mul(want, big.NewInt(int64(step)))
				if want.CmpAbs(big.NewInt(api.MaxAmount)) > 0 {
					want, problem = new(big.Int), api.ErrOverflow
				}
				if got, e := rounding.Step(amount, step, mode); int64(got) != want.Int64() || e != problem {
					t.Fatalf("Step of %d with the step %d and mode %d: %d and error %d, not %v and error %d", amount, step, mode, got, e, want, problem)
				}
			}
		}
	}
}

// P2.6: ErrArg comes before ErrOverflow.
func TestStepErrors(t *testing.T) {
	refused := func(amount, step, mode int, want api.Errno) {
		t.Helper()
		if got, e := rounding.Step(amount, step, mode); got != 0 || e != want {
			t.Errorf("Step of %d with the step %d and mode %d: %d and error %d, not error %d", amount, step, mode, got, e, want)
		}
	}
	for _, mode := range modes {
		for _, amount := range noAmounts {
			for _, step := range []int{1, 7, api.MaxAmount} {
				refused(amount, step, mode, api.ErrArg)
			}
		}
		for _, amount := range amounts() {
			for _, step := range []int{0, -1, -100, api.MaxAmount + 1, math.MaxInt, math.MinInt} {
				refused(amount, step, mode, api.ErrArg)
			}
		}
	}
	for _, mode := range noModes {
		refused(0, 1, mode, api.ErrArg)
		refused(1250, 100, mode, api.ErrArg)
		refused(api.MaxAmount, 7, mode, api.ErrArg)
		refused(-api.MaxAmount, 600000000000, mode, api.ErrArg)
	}
	refused(api.MaxAmount, 7, api.RoUp, api.ErrOverflow)
	refused(api.MaxAmount, 7, api.RoCeil, api.ErrOverflow)
	refused(-api.MaxAmount, 7, api.RoFloor, api.ErrOverflow)
	refused(api.MaxAmount, 600000000000, api.RoHalfUp, api.ErrOverflow)
	refused(-api.MaxAmount, 600000000000, api.RoHalfEven, api.ErrOverflow)
	refused(api.MaxAmount, api.MaxAmount-1, api.RoUp, api.ErrOverflow)
}
