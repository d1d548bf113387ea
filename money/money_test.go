package money_test

import (
	"math"
	"math/rand/v2"
	"slices"
	"strings"
	"testing"

	"corebank/api"
	"corebank/money"
)

const greatest, least = api.MaxAmount, -api.MaxAmount

// noAmounts are ints next to the limits, and far from them.
var noAmounts = []int{greatest + 1, greatest + 2, least - 1, least - 2, 2 * greatest, 2 * least, 1 << 62, -1 << 62,
	math.MaxInt, math.MaxInt - 1, math.MinInt, math.MinInt + 1, 1<<32*1000 + 1}

// seeded gives the same numbers in every run.
func seeded() *rand.Rand { return rand.New(rand.NewPCG(3, 3)) }

// anyAmount returns a valid amount, often one near zero or a limit.
func anyAmount(random *rand.Rand) int {
	switch random.IntN(5) {
	case 0:
		return random.IntN(7) - 3
	case 1:
		return greatest - random.IntN(4)
	case 2:
		return least + random.IntN(4)
	}
	return random.IntN(2*greatest+1) - greatest
}

// P3.1
func TestValid(t *testing.T) {
	for _, amount := range []int{0, 1, -1, 99, -100, 1 << 31, -1 << 32, greatest - 1, least + 1, greatest, least} {
		if !money.Valid(amount) {
			t.Errorf("Valid(%d) is false", amount)
		}
	}
	for _, amount := range noAmounts {
		if money.Valid(amount) {
			t.Errorf("Valid(%d) is true", amount)
		}
	}
}

// P3.1
func TestCodesAreThreeCapitalLetters(t *testing.T) {
	for _, code := range []string{"EUR", "USD", "AAA", "ZZZ", "AZA", "ZAZ", "BMY"} {
		if !money.Code(code) {
			t.Errorf("Code(%q) is false", code)
		}
	}
	others := []string{"", "A", "AB", "ABCD", "EURO", "AAAAAA", "eur", "EUr", "eUR", "E1R", "12A", " EU", "EU ", "E R", "EUR ", " EUR",
		"E-R", "\x00\x00\x00", "EUR\x00", "AB\n", strings.Repeat("A", 1<<20), strings.Repeat("EUR", 1000)}
	for _, code := range others {
		if money.Code(code) {
			t.Errorf("Code of %q, %d bytes, is true", code[:min(len(code), 10)], len(code))
		}
	}
}

// P3.1: every byte at every place, the others being letters.
func TestCodeWithEachByte(t *testing.T) {
	for place := range 3 {
		for b := range 256 {
			text := []byte("MNO")
			text[place] = byte(b)
			letter := b >= 'A' && b <= 'Z'
			if money.Code(string(text)) != letter {
				t.Errorf("Code(%q) is %v", text, !letter)
			}
		}
	}
}

// P3.1: letters that are none of A to Z, also those that take three bytes or are three, and those whose lowest byte is that of a capital letter.
func TestCodeWithOtherLetters(t *testing.T) {
	for _, code := range []string{"Ä", "ÄB", "BÄ", "ABÄ", "ÄÖÜ", "Ａ", "ＡＢＣ", "ŁŁŁ", "ŁA", "AŁ", "\u0241A", "АВС", "\xff\xfe\xfd", "A\xc3\x84",
		"\u2141", "Ⅷ", "\U00010041", "\xc1\xc2\xc3", "AB\u0301"} {
		if money.Code(code) {
			t.Errorf("Code(%q) is true", code)
		}
	}
}

// P3.2
func TestAdd(t *testing.T) {
	for _, c := range []struct {
		a, b, sum int
		problem   api.Errno
	}{
		{0, 0, 0, api.OK},
		{2, 3, 5, api.OK},
		{2, -3, -1, api.OK},
		{-2, -3, -5, api.OK},
		{greatest, 0, greatest, api.OK},
		{0, greatest, greatest, api.OK},
		{least, 0, least, api.OK},
		{0, least, least, api.OK},
		{greatest, least, 0, api.OK},
		{greatest - 1, 1, greatest, api.OK},
		{1, greatest - 1, greatest, api.OK},
		{least + 1, -1, least, api.OK},
		{greatest / 2, greatest / 2, greatest, api.OK},
		{greatest, 1, 0, api.ErrOverflow},
		{1, greatest, 0, api.ErrOverflow},
		{least, -1, 0, api.ErrOverflow},
		{-1, least, 0, api.ErrOverflow},
		{greatest, greatest, 0, api.ErrOverflow},
		{least, least, 0, api.ErrOverflow},
		{greatest/2 + 1, greatest / 2, 0, api.ErrOverflow},
		{least/2 - 1, least / 2, 0, api.ErrOverflow},
	} {
		if sum, problem := money.Add(c.a, c.b); sum != c.sum || problem != c.problem {
			t.Errorf("Add(%d, %d) is %d, %d; want %d, %d", c.a, c.b, sum, problem, c.sum, c.problem)
		}
	}
}

// P3.2: no int that is not valid is added, whether the sum would be valid, would not be, or would be no int.
func TestAddRefusesFirst(t *testing.T) {
	others := append([]int{0, 1, -1, 2, -2, greatest, least}, noAmounts...)
	for _, amount := range noAmounts {
		for _, other := range append(others, -amount) {
			if sum, problem := money.Add(amount, other); sum != 0 || problem != api.ErrArg {
				t.Errorf("Add(%d, %d) is %d, %d", amount, other, sum, problem)
			}
			if sum, problem := money.Add(other, amount); sum != 0 || problem != api.ErrArg {
				t.Errorf("Add(%d, %d) is %d, %d", other, amount, sum, problem)
			}
		}
	}
}

// many returns a list of n equal amounts.
func many(n, amount int) []int { return slices.Repeat([]int{amount}, n) }

// P3.3
func TestSum(t *testing.T) {
	for name, c := range map[string]struct {
		l       []int
		sum     int
		problem api.Errno
	}{
		"nil":                            {nil, 0, api.OK},
		"empty":                          {[]int{}, 0, api.OK},
		"one":                            {[]int{-7}, -7, api.OK},
		"three":                          {[]int{1, 20, -300}, -279, api.OK},
		"the greatest":                   {[]int{greatest}, greatest, api.OK},
		"the least":                      {[]int{least}, least, api.OK},
		"example 3":                      {[]int{greatest, greatest, least}, greatest, api.OK},
		"a part below the least":         {[]int{least, least, greatest}, least, api.OK},
		"a part above, then zero":        {[]int{greatest, 1, least, -1}, 0, api.OK},
		"full":                           {many(api.MaxEntries, 3), 3 * api.MaxEntries, api.OK},
		"full, zeros":                    {many(api.MaxEntries, 0), 0, api.OK},
		"full, first up and then down":   {append(many(api.MaxEntries/2, greatest), many(api.MaxEntries/2, least)...), 0, api.OK},
		"full, first down and then up":   {append(many(api.MaxEntries/2, least), many(api.MaxEntries/2, greatest)...), 0, api.OK},
		"full, exactly the greatest sum": {append(many(api.MaxEntries-1, greatest/api.MaxEntries), greatest-(api.MaxEntries-1)*(greatest/api.MaxEntries)), greatest, api.OK},
		"above":                          {[]int{greatest, 1}, 0, api.ErrOverflow},
		"below":                          {[]int{least, -1}, 0, api.ErrOverflow},
		"above at the end":               {[]int{1, 2, 3, greatest - 5}, 0, api.ErrOverflow},
		"full, far above":                {many(api.MaxEntries, greatest), 0, api.ErrOverflow},
		"full, far below":                {many(api.MaxEntries, least), 0, api.ErrOverflow},
		"too long":                       {many(api.MaxEntries+1, 0), 0, api.ErrLimit},
		"too long, as one":               {many(api.MaxEntries+1, 1), 0, api.ErrLimit},
		"much too long":                  {many(1<<20, 1), 0, api.ErrLimit},
		"too long before invalid":        {many(api.MaxEntries+1, greatest+1), 0, api.ErrLimit},
		"too long before the sum":        {many(api.MaxEntries+1, greatest), 0, api.ErrLimit},
		"invalid before the sum":         {[]int{greatest, greatest, least - 1}, 0, api.ErrArg},
		"invalid at the end, full":       {append(many(api.MaxEntries-1, greatest), greatest+1), 0, api.ErrArg},
		"invalid ones that cancel":       {[]int{greatest + 1, least - 1}, 0, api.ErrArg},
		"far ones that cancel":           {[]int{math.MaxInt, -math.MaxInt}, 0, api.ErrArg},
		"far ones that wrap":             {[]int{math.MinInt, math.MinInt}, 0, api.ErrArg},
	} {
		before := slices.Clone(c.l)
		if sum, problem := money.Sum(c.l); sum != c.sum || problem != c.problem {
			t.Errorf("%s: %d, %d; want %d, %d", name, sum, problem, c.sum, c.problem)
		}
		if !slices.Equal(c.l, before) {
			t.Errorf("%s: Sum changed the list", name)
		}
	}
}

// P3.3: an int that is not valid is found at every place.
func TestSumExaminesEachElement(t *testing.T) {
	for _, amount := range noAmounts {
		for place := range 5 {
			l := []int{1, -2, 3, greatest, least}
			l[place] = amount
			if sum, problem := money.Sum(l); sum != 0 || problem != api.ErrArg {
				t.Errorf("Sum(%v) is %d, %d", l, sum, problem)
			}
		}
	}
}

// P3.2, P3.3: both add, and agree.
func TestSumOfTwoIsAdd(t *testing.T) {
	random := seeded()
	for range 5000 {
		a, b := anyAmount(random), anyAmount(random)
		want, expected := a+b, api.OK
		if want > greatest || want < least {
			want, expected = 0, api.ErrOverflow
		}
		if sum, problem := money.Add(a, b); sum != want || problem != expected {
			t.Fatalf("Add(%d, %d) is %d, %d", a, b, sum, problem)
		}
		if sum, problem := money.Sum([]int{a, b}); sum != want || problem != expected {
			t.Fatalf("Sum(%d, %d) is %d, %d", a, b, sum, problem)
		}
	}
}

// P3.8: the order of the elements does not matter.
func TestSumInEachOrder(t *testing.T) {
	random := seeded()
	for range 3000 {
		l := make([]int, random.IntN(9))
		want, expected := 0, api.OK
		for i := range l {
			l[i] = anyAmount(random)
			want += l[i]
		}
		if want > greatest || want < least {
			want, expected = 0, api.ErrOverflow
		}
		for range 4 {
			random.Shuffle(len(l), func(i, j int) { l[i], l[j] = l[j], l[i] })
			if sum, problem := money.Sum(l); sum != want || problem != expected {
				t.Fatalf("Sum(%v) is %d, %d; want %d, %d", l, sum, problem, want, expected)
			}
		}
	}
}
