package money_test

import (
	"math"
	"slices"
	"strings"
	"testing"

	"corebank/api"
	"corebank/money"
)

// cash returns the currency with a code and a number of decimal places.
func cash(code string, digits int) api.Currency { return api.Currency{Code: code, Digits: digits} }

// list returns currencies with these codes, with 0, 1, 2, 3, 4, 0, .. decimal places.
func list(codes ...string) []api.Currency {
	var l []api.Currency
	for i, code := range codes {
		l = append(l, api.Currency{Code: code, Digits: i % (api.MaxDigits + 1)})
	}
	return l
}

// noDigits are numbers of decimal places that no currency has.
var noDigits = []int{-1, -2, -4, 5, 6, 100, 1 << 32, 1<<32 + 2, math.MaxInt, math.MinInt}

// noCodes are texts that are no codes, lesser and greater than codes.
var noCodes = []string{"", "A", "EU", "eur", "EUr", "ZZZZ", "zzz", "E1R", "ÄB", "\xff\xff\xff", strings.Repeat("Z", 1000)}

// P3.4
func TestCheck(t *testing.T) {
	full := []string{"AAA", "AAB", "AAZ", "ABA", "AZZ", "BAA", "ZZY", "ZZZ"}
	for name, c := range map[string]struct {
		l       []api.Currency
		problem api.Errno
	}{
		"one":                                {list("EUR"), api.OK},
		"two":                                {list("EUR", "USD"), api.OK},
		"full":                               {list(full...), api.OK},
		"the least one alone":                {list("AAA"), api.OK},
		"nil":                                {nil, api.ErrLimit},
		"empty":                              {[]api.Currency{}, api.ErrLimit},
		"too long":                           {list(append(full, "ZZZ")...), api.ErrLimit},
		"too long, in order":                 {list("AAA", "BBB", "CCC", "DDD", "EEE", "FFF", "GGG", "HHH", "III"), api.ErrLimit},
		"much too long":                      {list(slices.Repeat([]string{""}, 1000)...), api.ErrLimit},
		"twice the same":                     {list("EUR", "EUR"), api.ErrOrder},
		"twice the same, other digits":       {[]api.Currency{cash("EUR", 2), cash("EUR", 3)}, api.ErrOrder},
		"descending by the first letter":     {list("BAA", "AZZ"), api.ErrOrder},
		"descending by the second letter":    {list("EVA", "EUZ"), api.ErrOrder},
		"descending by the third letter":     {list("EUR", "EUQ"), api.ErrOrder},
		"only not greater than the one next": {list("AAA", "CCC", "BBB"), api.ErrOrder},
		"descending at the end":              {list("AAA", "BBB", "CCC", "DDD", "EEE", "FFF", "HHH", "GGG"), api.ErrOrder},
		"the same at the end":                {list("AAA", "BBB", "CCC", "DDD", "EEE", "FFF", "GGG", "GGG"), api.ErrOrder},
		"ascending by digits alone":          {[]api.Currency{cash("USD", 0), cash("EUR", 2)}, api.ErrOrder},
	} {
		before := slices.Clone(c.l)
		if problem := money.Check(c.l); problem != c.problem {
			t.Errorf("%s: %d, want %d", name, problem, c.problem)
		}
		if !slices.Equal(c.l, before) {
			t.Errorf("%s: Check changed the list", name)
		}
	}
}

// P3.4: each place, with each kind of fault.
func TestCheckExaminesEachElement(t *testing.T) {
	for place := range api.MaxCash {
		l := list("AAA", "BBB", "CCC", "DDD", "EEE", "FFF", "GGG", "HHH")
		for digits := range api.MaxDigits + 1 {
			l[place].Digits = digits
			if problem := money.Check(l); problem != api.OK {
				t.Errorf("Check(%v) is %d", l, problem)
			}
		}
		for _, digits := range noDigits {
			l[place].Digits = digits
			if problem := money.Check(l); problem != api.ErrArg {
				t.Errorf("Check(%v) is %d", l, problem)
			}
		}
		l[place].Digits = 2
		for _, code := range noCodes {
			l[place].Code = code
			if problem := money.Check(l); problem != api.ErrName {
				t.Errorf("Check(%v) is %d", l, problem)
			}
		}
	}
}

// P3.4: the first of several errors.
func TestCheckOrderOfErrors(t *testing.T) {
	for name, c := range map[string]struct {
		l       []api.Currency
		problem api.Errno
	}{
		"a limit before a name":               {list(slices.Repeat([]string{"eur"}, api.MaxCash+1)...), api.ErrLimit},
		"a limit before digits":               {slices.Repeat([]api.Currency{cash("EUR", -1)}, api.MaxCash+1), api.ErrLimit},
		"a limit before an order":             {list(slices.Repeat([]string{"EUR"}, api.MaxCash+1)...), api.ErrLimit},
		"a name before digits":                {[]api.Currency{cash("eur", -1)}, api.ErrName},
		"a name before an order":              {[]api.Currency{cash("EUR", 2), cash("", 2)}, api.ErrName},
		"digits before an order":              {[]api.Currency{cash("EUR", 2), cash("EUR", 5)}, api.ErrArg},
		"digits of the first element":         {[]api.Currency{cash("EUR", 5), cash("usd", 2)}, api.ErrArg},
		"digits of the first before an order": {[]api.Currency{cash("EUR", 5), cash("AAA", 2)}, api.ErrArg},
		"a name of the first element":         {[]api.Currency{cash("", 2), cash("EUR", 5), cash("AAA", 0)}, api.ErrName},
		"an order before a later name":        {[]api.Currency{cash("EUR", 2), cash("AAA", 2), cash("", 2)}, api.ErrOrder},
		"an order before later digits":        {[]api.Currency{cash("EUR", 2), cash("AAA", 2), cash("USD", -1)}, api.ErrOrder},
		"digits before a later order":         {[]api.Currency{cash("EUR", 2), cash("USD", -1), cash("AAA", 2)}, api.ErrArg},
		"a name before a later order":         {[]api.Currency{cash("EUR", 2), cash("Usd", 2), cash("AAA", 2)}, api.ErrName},
	} {
		if problem := money.Check(c.l); problem != c.problem {
			t.Errorf("%s: %d, want %d", name, problem, c.problem)
		}
	}
}

// P3.5
func TestFind(t *testing.T) {
	l := []api.Currency{cash("EUR", 2), cash("JPY", 0), cash("EUR", 3), cash("", -7), cash("usd", 99), cash("JPY", 0), cash("\xff", math.MinInt), cash("TND", 3)}
	for code, want := range map[string]api.Currency{"EUR": cash("EUR", 2), "JPY": cash("JPY", 0), "": cash("", -7), "usd": cash("usd", 99), "\xff": cash("\xff", math.MinInt), "TND": cash("TND", 3)} {
		if found, ok := money.Find(l, code); found != want || !ok {
			t.Errorf("Find(%q) is %v, %v; want %v", code, found, ok, want)
		}
	}
	for _, code := range []string{"USD", "eur", "EU", "EURO", "R", "EUR ", "\x00", "\xfe", "JPZ", strings.Repeat("EUR", 1000)} {
		if found, ok := money.Find(l, code); found != (api.Currency{}) || ok {
			t.Errorf("Find(%q) is %v, %v", code, found, ok)
		}
	}
	if !slices.Equal(l, []api.Currency{cash("EUR", 2), cash("JPY", 0), cash("EUR", 3), cash("", -7), cash("usd", 99), cash("JPY", 0), cash("\xff", math.MinInt), cash("TND", 3)}) {
		t.Error("Find changed the list")
	}
}

// P3.5: lists that Check does not accept.
func TestFindInAnyList(t *testing.T) {
	for _, code := range []string{"", "EUR"} {
		if found, ok := money.Find(nil, code); found != (api.Currency{}) || ok {
			t.Errorf("Find(nil, %q) is %v, %v", code, found, ok)
		}
		if found, ok := money.Find([]api.Currency{}, code); found != (api.Currency{}) || ok {
			t.Errorf("Find of %q in an empty list is %v, %v", code, found, ok)
		}
	}
	long := append(slices.Repeat([]api.Currency{cash("ZZZ", 1)}, 5000), cash("AAA", 4), cash("AAA", 3))
	if found, ok := money.Find(long, "AAA"); found != cash("AAA", 4) || !ok {
		t.Errorf("the last but one is found as %v, %v", found, ok)
	}
	if found, ok := money.Find(long, "BBB"); found != (api.Currency{}) || ok {
		t.Errorf("what is not there is found as %v, %v", found, ok)
	}
}

// P3.8: in a list that Check accepts, every code is found.
func TestFindAfterCheck(t *testing.T) {
	random := seeded()
	for range 2000 {
		codes := make([]string, 1+random.IntN(api.MaxCash))
		for i := range codes {
			codes[i] = string([]byte{byte('A' + random.IntN(26)), byte('A' + random.IntN(2)), byte('Y' + random.IntN(2))})
		}
		slices.Sort(codes)
		l := list(slices.Compact(codes)...)
		if problem := money.Check(l); problem != api.OK {
			t.Fatalf("Check(%v) is %d", l, problem)
		}
		for _, currency := range l {
			if found, ok := money.Find(l, currency.Code); found != currency || !ok {
				t.Fatalf("Find(%v, %q) is %v, %v", l, currency.Code, found, ok)
			}
		}
	}
}
