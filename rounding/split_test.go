package rounding_test

import (
	"math"
	"math/big"
	"slices"
	"testing"

	"corebank/api"
	"corebank/rounding"
)

// repeated returns a list of n equal numbers.
func repeated(number, n int) []int { return slices.Repeat([]int{number}, n) }

// P2.5
func TestSplitTable(t *testing.T) {
	for _, x := range []struct {
		amount        int
		weights, want []int
	}{
		{100, []int{1, 1, 1}, []int{34, 33, 33}},
		{-7, []int{1, 0, 2}, []int{-2, 0, -5}},
		{7, []int{1, 0, 2}, []int{2, 0, 5}},
		{0, []int{1, 2}, []int{0, 0}},
		{5, []int{3}, []int{5}},
		{1, []int{1, 1}, []int{1, 0}},
		{-1, []int{1, 1}, []int{-1, 0}},
		{1, []int{0, 1}, []int{0, 1}},
		{2, []int{1, 1, 1}, []int{1, 1, 0}},
		{-2, []int{1, 1, 1}, []int{-1, -1, 0}},
		{1, []int{1, 2, 2, 1}, []int{0, 1, 0, 0}},
		{2, []int{1, 2, 2, 1}, []int{0, 1, 1, 0}},
		{10, []int{1, 2, 3}, []int{2, 3, 5}},             // the remainders are 4, 2 and 0 of 6
		{3, []int{3, 1}, []int{2, 1}},                    // the greatest remainder, not the greatest weight
		{10, []int{0, 0, 5, 0}, []int{0, 0, 10, 0}},      // a weight of 0 has no part
		{3, []int{0, 1, 0, 1, 0}, []int{0, 2, 0, 1, 0}},  // nor a unit that is left
		{100, []int{50, 50, 100}, []int{25, 25, 50}},     // nothing is left
		{-100, []int{50, 50, 100}, []int{-25, -25, -50}}, // nor of this
		{api.MaxAmount, []int{api.MaxAmount}, []int{api.MaxAmount}},
		{-api.MaxAmount, []int{1}, []int{-api.MaxAmount}},
		{api.MaxAmount, []int{api.MaxAmount, api.MaxAmount}, []int{api.MaxAmount / 2, api.MaxAmount / 2}},
		{api.MaxAmount, []int{1, api.MaxAmount}, []int{1, api.MaxAmount - 1}},
		{api.MaxAmount - 1, []int{1, api.MaxAmount}, []int{1, api.MaxAmount - 2}},
		{3, repeated(api.MaxAmount, 64), slices.Concat(repeated(1, 3), repeated(0, 61))},
		{-63, repeated(1, 64), append(repeated(-1, 63), 0)},
		{65, repeated(7, 64), append([]int{2}, repeated(1, 63)...)},
	} {
		if parts, e := rounding.Split(x.amount, x.weights); !slices.Equal(parts, x.want) || e != api.OK {
			t.Errorf("Split of %d by %v: %v and error %d, not %v", x.amount, x.weights, parts, e, x.want)
		}
	}
}

// distributed does what the chapter says, unit by unit.
func distributed(amount int, weights []int) []int {
	size, total := new(big.Int).Abs(big.NewInt(int64(amount))), new(big.Int)
	for _, weight := range weights {
		total.Add(total, big.NewInt(int64(weight)))
	}
	left := int(size.Int64())
	var parts []int
	var remainders []*big.Int
	for _, weight := range weights {
		product := new(big.Int).Mul(size, big.NewInt(int64(weight)))
		share, remainder := product.DivMod(product, total, new(big.Int))
		parts, remainders = append(parts, int(share.Int64())), append(remainders, remainder)
		left -= int(share.Int64())
	}
	for ; left > 0; left-- {
		best := 0
		for i := range remainders {
			if remainders[i].Cmp(remainders[best]) > 0 {
				best = i
			}
		}
		parts[best]++
		remainders[best] = big.NewInt(-1)
	}
	if amount < 0 {
		for i := range parts {
			parts[i] *= -1
		}
	}
	return parts
}

// lists are lists of weights of many lengths, with zeros, equal weights and weights up to MaxAmount.
func lists() [][]int {
	l := [][]int{{1}, {api.MaxAmount}, {0, 1}, {1, 0}, {1, 1}, {1, 2, 3}, {3, 2, 1}, {0, 0, 7}, repeated(1, 64), repeated(api.MaxAmount, 64), append(repeated(0, 63), 1)}
	random := seeded()
	for range 300 {
		greatest := []int{1, 2, 5, 100, 1000000, api.MaxAmount}[random.IntN(6)]
		weights := []int{1 + random.IntN(greatest)}
		for range random.IntN(api.MaxList) {
			weights = append(weights, random.IntN(greatest+1))
		}
		random.Shuffle(len(weights), func(i, j int) { weights[i], weights[j] = weights[j], weights[i] })
		l = append(l, weights)
	}
	return l
}

// eachSplit calls check for amounts of all lengths and the lists above.
func eachSplit(check func(amount int, weights []int)) {
	random := seeded()
	for _, weights := range lists() {
		for _, amount := range amounts() {
			check(amount, weights)
		}
		for length := range 40 {
			check(random.IntN(1<<length), weights)
			check(-random.IntN(1<<length), weights)
		}
	}
}

// P2.5
func TestSplit(t *testing.T) {
	eachSplit(func(amount int, weights []int) {
		given := slices.Clone(weights)
		parts, e := rounding.Split(amount, weights)
		if want := distributed(amount, given); !slices.Equal(parts, want) || e != api.OK {
			t.Fatalf("Split of %d by %v: %v and error %d, not %v", amount, given, parts, e, want)
		}
		if !slices.Equal(weights, given) {
			t.Fatalf("Split of %d by %v changes the weights to %v", amount, given, weights)
		}
	})
}

// P2.7: from the results alone.
func TestSplitWithoutLoss(t *testing.T) {
	eachSplit(func(amount int, weights []int) {
		parts, e := rounding.Split(amount, weights)
		if e != api.OK || len(parts) != len(weights) {
			t.Fatalf("Split of %d by %v: %v and error %d", amount, weights, parts, e)
		}
		sum, total := 0, new(big.Int)
		for i := range parts {
			sum += parts[i]
			total.Add(total, big.NewInt(int64(weights[i])))
		}
		if sum != amount {
			t.Fatalf("Split of %d by %v: %v add up to %d", amount, weights, parts, sum)
		}
		for i, part := range parts {
			if amount <= 0 && part > 0 || amount >= 0 && part < 0 {
				t.Fatalf("Split of %d by %v: %d has the opposite sign", amount, weights, part)
			}
			distance := new(big.Int).Mul(big.NewInt(int64(part)), total)
			distance.Sub(distance, new(big.Int).Mul(big.NewInt(int64(amount)), big.NewInt(int64(weights[i]))))
			if distance.CmpAbs(total) >= 0 {
				t.Fatalf("Split of %d by %v: %d is a unit or more from its share", amount, weights, part)
			}
		}
	})
}

// P2.5
func TestSplitErrors(t *testing.T) {
	refused := func(amount int, weights []int) {
		t.Helper()
		if parts, e := rounding.Split(amount, weights); len(parts) != 0 || e != api.ErrArg {
			t.Errorf("Split of %d by %v: %v and error %d, not error %d", amount, weights, parts, e, api.ErrArg)
		}
	}
	for _, amount := range noAmounts {
		refused(amount, []int{1})
		refused(amount, []int{1, 2, 3})
		refused(amount, repeated(api.MaxAmount, 64))
	}
	for _, amount := range amounts() {
		refused(amount, nil)
		refused(amount, []int{})
		refused(amount, []int{0})
		refused(amount, repeated(0, 3))
		refused(amount, repeated(0, 64))
		refused(amount, repeated(1, 65))
		refused(amount, append(repeated(1, 64), 0))
		refused(amount, append([]int{1}, repeated(0, 64)...))
		refused(amount, repeated(1, 1000))
		for _, weight := range []int{-1, -api.MaxAmount, math.MinInt, api.MaxAmount + 1, math.MaxInt} {
			refused(amount, []int{weight})
			refused(amount, []int{weight, 5})
			refused(amount, []int{5, weight})
			refused(amount, []int{1, 2, weight, 3})
			refused(amount, append(repeated(0, 63), weight))
		}
		refused(amount, []int{-1, 1})
		refused(amount, []int{2, -1})
		refused(amount, []int{math.MaxInt, math.MaxInt, 3}) // the sum of ints would be 1
	}
}

// 0.4: results are new memory.
func TestSplitSharesNoMemory(t *testing.T) {
	weights := []int{1, 1, 1, 0}
	first, _ := rounding.Split(100, weights)
	second, _ := rounding.Split(100, weights)
	for i := range first {
		first[i] = 77
	}
	if !slices.Equal(second, []int{34, 33, 33, 0}) || !slices.Equal(weights, []int{1, 1, 1, 0}) {
		t.Errorf("after a change of a result there are %v and the weights %v", second, weights)
	}
}
