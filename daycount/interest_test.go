package daycount_test

import (
	"math"
	"math/big"
	"math/rand/v2"
	"testing"

	"corebank/api"
	"corebank/daycount"
)

// exact is the value of a wide number.
func exact(a api.Wide) *big.Int {
	high := new(big.Int).Lsh(big.NewInt(int64(a.Hi)), 64)
	return high.Add(high, new(big.Int).SetUint64(a.Lo))
}

// grains is the interest that the chapter defines.
func grains(balance, ppm, sum int) *big.Int {
	product := new(big.Int).Mul(big.NewInt(int64(balance)), big.NewInt(int64(ppm)))
	return product.Mul(product, big.NewInt(int64(sum)))
}

// interest returns the interest of arguments without errors.
func interest(t *testing.T, balance, ppm, basis, from, to int) *big.Int {
	t.Helper()
	got, e := daycount.Interest(balance, ppm, basis, from, to)
	if e != api.OK {
		t.Fatalf("Interest(%d, %d, %d, %d, %d) is the error %d", balance, ppm, basis, from, to, e)
	}
	return exact(got)
}

// balances and rates are those at the limits, and small, middle and large ones.
var (
	balances = []int{0, 1, -1, 2, -3, 100000, -100000, 1<<32 + 1, api.MaxAmount - 1, api.MaxAmount, 1 - api.MaxAmount, -api.MaxAmount}
	rates    = []int{0, 1, 2, 15000, 333333, api.MaxPpm - 1, api.MaxPpm}
)

// sample returns a number from the list or from any place between the limits.
func sample(random *rand.Rand, list []int, least, greatest int) int {
	if random.IntN(2) == 0 {
		return list[random.IntN(len(list))]
	}
	return least + random.IntN(greatest-least+1)
}

// P6.5
func TestInterest(t *testing.T) {
	for _, c := range []struct {
		balance, ppm, basis, from, to int
		want                          string
	}{
		{100000, 15000, api.Ba365, 0, 1, "6588000000000"},
		{-100000, 15000, api.Ba365, 0, 1, "-6588000000000"},
		{100000, 15000, api.BaActual, 0, 1, "6570000000000"},
		{100000, 15000, api.BaActual, 366, 367, "6588000000000"},
		{100000, 15000, api.Ba360, 0, 1, "6679500000000"},
		{100000, 15000, api.BaThirty, 59, 60, "13359000000000"},
		{100000, 15000, api.BaThirty, 29, 30, "0"},
		{100000, 15000, api.Ba365, 7, 7, "0"},
		{0, 15000, api.Ba365, 0, 1, "0"},
		{100000, 0, api.Ba365, 0, 1, "0"},
		{1, 1, api.Ba360, 0, 1, "4453"},
		{-1, 1, api.Ba360, 0, 1, "-4453"},
		{1, 1, api.BaThirty, 424, 425, "13359"},
		{api.MaxAmount, api.MaxPpm, api.Ba360, 0, api.MaxDay, "325282744000000000000000000"},
		{-api.MaxAmount, api.MaxPpm, api.Ba360, 0, api.MaxDay, "-325282744000000000000000000"},
		{api.MaxAmount, api.MaxPpm, api.BaActual, 0, 366, "1603080000000000000000000"},
		{-api.MaxAmount, 1, api.BaThirty, 0, 366, "-1603080000000000000"},
		{1, api.MaxPpm, api.BaActual, 366, 731, "1603080000000"},
	} {
		got, e := daycount.Interest(c.balance, c.ppm, c.basis, c.from, c.to)
		if exact(got).String() != c.want || e != api.OK {
			t.Errorf("Interest(%d, %d, %d, %d, %d) is %v, %d, not %s", c.balance, c.ppm, c.basis, c.from, c.to, exact(got), e, c.want)
		}
	}
}

// P6.5: each balance with each rate, basis and some spans.
func TestInterestOfMany(t *testing.T) {
	all := dates()
	spans := [][2]int{{0, 0}, {0, 1}, {29, 30}, {58, 60}, {365, 367}, {0, 366}, {366, 731}, {424, 425}, {36583, 36584}, {100, 4100}, {0, api.MaxDay}, {api.MaxDay - 1, api.MaxDay}, {api.MaxDay, api.MaxDay}}
	for _, basis := range bases {
		before := sums(all, basis)
		for _, span := range spans {
			sum := before[span[1]] - before[span[0]]
			for _, balance := range balances {
				for _, ppm := range rates {
					got, want := interest(t, balance, ppm, basis, span[0], span[1]), grains(balance, ppm, sum)
					if got.Cmp(want) != 0 {
						t.Fatalf("Interest(%d, %d, %d, %d, %d) is %v, not %v", balance, ppm, basis, span[0], span[1], got, want)
					}
				}
			}
		}
	}
}

// P6.5: any balances, rates and spans.
func TestInterestOfAny(t *testing.T) {
	all, random := dates(), seeded()
	for _, basis := range bases {
		before := sums(all, basis)
		for range 50000 {
			balance, ppm := sample(random, balances, -api.MaxAmount, api.MaxAmount), sample(random, rates, 0, api.MaxPpm)
			from := random.IntN(len(all))
			to := from + random.IntN(len(all)-from)
			got, want := interest(t, balance, ppm, basis, from, to), grains(balance, ppm, before[to]-before[from])
			if got.Cmp(want) != 0 {
				t.Fatalf("Interest(%d, %d, %d, %d, %d) is %v, not %v", balance, ppm, basis, from, to, got, want)
			}
		}
	}
}

// P6.5: each argument beyond its bounds, with the other ones inside.
func TestInterestErrors(t *testing.T) {
	refused := func(balance, ppm, basis, from, to int) {
		t.Helper()
		if got, e := daycount.Interest(balance, ppm, basis, from, to); got != (api.Wide{}) || e != api.ErrArg {
			t.Errorf("Interest(%d, %d, %d, %d, %d) is %v, %d", balance, ppm, basis, from, to, got, e)
		}
	}
	for _, basis := range bases {
		for _, balance := range []int{api.MaxAmount + 1, -api.MaxAmount - 1, 2 * api.MaxAmount, -2 * api.MaxAmount, 1 << 62, math.MaxInt, math.MinInt, math.MinInt + 1} {
			refused(balance, 15000, basis, 0, 366)
			refused(balance, 0, basis, 7, 7)
		}
		for _, ppm := range []int{-1, -2, -15000, -api.MaxPpm, api.MaxPpm + 1, 2 * api.MaxPpm, 1 << 32, 1<<32 + 15000, math.MaxInt, math.MinInt, math.MinInt + 1} {
			refused(100000, ppm, basis, 0, 366)
			refused(0, ppm, basis, 7, 7)
		}
		for _, bad := range noDays {
			refused(100000, 15000, basis, bad, 366)
			refused(100000, 15000, basis, 0, bad)
			refused(0, 0, basis, bad, bad)
		}
		refused(100000, 15000, basis, 1, 0)
		refused(100000, 15000, basis, 30, 29)
		refused(0, 0, basis, 31, 30)
		refused(1, 1, basis, api.MaxDay, api.MaxDay-1)
		refused(1, 1, basis, api.MaxDay, 0)
	}
	for _, basis := range noBases {
		refused(100000, 15000, basis, 0, 366)
		refused(0, 0, basis, 7, 7)
	}
}

// P6.5: ints that overflow if they are multiplied or subtracted before they are examined.
func TestInterestOfTheGreatestInts(t *testing.T) {
	extremes := []int{math.MinInt, math.MinInt + 1, -1 << 62, 1 << 62, math.MaxInt - 1, math.MaxInt}
	for _, a := range extremes {
		for _, b := range extremes {
			for _, c := range extremes {
				if got, e := daycount.Interest(a, b, c, b, a); got != (api.Wide{}) || e != api.ErrArg {
					t.Errorf("Interest(%d, %d, %d, %d, %d) is %v, %d", a, b, c, b, a, got, e)
				}
				if got := daycount.Sum(a, b, c); got != 0 {
					t.Errorf("Sum(%d, %d, %d) is %d", a, b, c, got)
				}
			}
		}
	}
}

// P6.6
func TestInterestIsAdditive(t *testing.T) {
	random := seeded()
	for range 50000 {
		balance, ppm, basis := sample(random, balances, -api.MaxAmount, api.MaxAmount), sample(random, rates, 0, api.MaxPpm), bases[random.IntN(len(bases))]
		from := random.IntN(api.MaxDay + 1)
		middle := from + random.IntN(api.MaxDay+1-from)
		to := middle + random.IntN(api.MaxDay+1-middle)
		whole, first, second := interest(t, balance, ppm, basis, from, to), interest(t, balance, ppm, basis, from, middle), interest(t, balance, ppm, basis, middle, to)
		if whole.Cmp(first.Add(first, second)) != 0 {
			t.Fatalf("Interest(%d, %d, %d, %d, %d) is %v, but %v with %d between", balance, ppm, basis, from, to, whole, first, middle)
		}
	}
}

// P6.7
func TestInterestOfTheOppositeBalance(t *testing.T) {
	random := seeded()
	for range 50000 {
		balance, ppm, basis := sample(random, balances, -api.MaxAmount, api.MaxAmount), sample(random, rates, 0, api.MaxPpm), bases[random.IntN(len(bases))]
		from := random.IntN(api.MaxDay + 1)
		to := from + random.IntN(api.MaxDay+1-from)
		one, other := interest(t, balance, ppm, basis, from, to), interest(t, -balance, ppm, basis, from, to)
		if one.Cmp(other.Neg(other)) != 0 {
			t.Fatalf("Interest(%d, %d, %d, %d, %d) is %v, but minus that of the opposite is %v", balance, ppm, basis, from, to, one, other)
		}
	}
}
