package daycount_test

import (
	"math"
	"math/rand/v2"
	"slices"
	"testing"

	"corebank/api"
)

// bases are all bases.
var bases = []int{api.Ba360, api.Ba365, api.BaActual, api.BaThirty}

// noBases are numbers next to the bases, and far from them; the lowest 32 bits of some are those of bases.
var noBases = []int{0, -1, -2, -3, -4, 5, 6, 7, 8, 360, 365, 366, 1 << 31, 1 << 32, 1<<32 + 1, 1<<32 + 2, 1<<32 + 3, 1<<32 + 4, 1 - 1<<32, 4 - 1<<32, math.MaxInt, math.MaxInt - 3, math.MinInt, math.MinInt + 1, math.MinInt + 3, math.MinInt + 4}

// noDays are numbers next to the days, and far from them; the lowest 32 bits of some are those of days.
var noDays = []int{-1, -2, -31, -365, -366, -730119, api.MaxDay + 1, api.MaxDay + 2, api.MaxDay + 31, api.MaxDay + 365, api.MaxDay + 366, 1 << 31, 1 << 32, 1<<32 + 60, -1 << 32, 60 - 1<<32,
	math.MaxInt, math.MaxInt - 1, math.MinInt, math.MinInt + 1, math.MinInt + 60}

// seeded gives the same numbers in every run.
func seeded() *rand.Rand { return rand.New(rand.NewPCG(6, 6)) }

// civil is a civil date.
type civil struct{ year, month, day int }

// leap is the definition of layer 4.
func leap(year int) bool {
	if year%400 == 0 {
		return true
	}
	return year%100 != 0 && year%4 == 0
}

// length is the number of days of a month.
func length(year, month int) int {
	switch month {
	case 4, 6, 9, 11:
		return 30
	case 2:
		if leap(year) {
			return 29
		}
		return 28
	}
	return 31
}

// dates are the civil dates of all days, found by going from each one to the next one.
func dates() []civil {
	var l []civil
	for year := 2000; year < 2200; year++ {
		for month := 1; month <= 12; month++ {
			for day := 1; day <= length(year, month); day++ {
				l = append(l, civil{year, month, day})
			}
		}
	}
	return l
}

// thirty is the definition of the chapter.
func thirty(a, b civil) int {
	return 360*(b.year-a.year) + 30*(b.month-a.month) + min(b.day, 30) - min(a.day, 30)
}

// weight is the weight of a day by the definition of the chapter.
func weight(all []civil, basis, day int) int {
	switch {
	case basis == api.Ba360:
		return 4453
	case basis == api.BaActual && leap(all[day].year):
		return 4380
	case basis == api.Ba365 || basis == api.BaActual:
		return 4392
	case day == api.MaxDay:
		return 0
	}
	return 4453 * thirty(all[day], all[day+1])
}

// sums are for each day the sum of the weights of the days before it.
func sums(all []civil, basis int) []int {
	l := []int{0}
	for day := range api.MaxDay {
		l = append(l, l[day]+weight(all, basis, day))
	}
	return l
}

// edges are days on which something changes: the first and the last ones of all, of years, of months of 31, 30, 29 and 28 days, and of centuries.
func edges(all []civil) []int {
	var l []int
	for day, c := range all {
		switch c.year {
		case 2000, 2001, 2004, 2099, 2100, 2101, 2198, 2199:
			if c.day <= 2 || c.day >= 27 {
				l = append(l, day)
			}
		}
	}
	return l
}

// on returns the day with a civil date.
func on(t *testing.T, all []civil, year, month, day int) int {
	t.Helper()
	at := slices.Index(all, civil{year, month, day})
	if at < 0 {
		t.Fatalf("there is no day %d-%d-%d", year, month, day)
	}
	return at
}

// The dates that the tests expect are those of all days.
func TestDates(t *testing.T) {
	all := dates()
	if len(all) != api.MaxDay+1 || all[59] != (civil{2000, 2, 29}) || all[api.MaxDay] != (civil{2199, 12, 31}) {
		t.Fatal(len(all), all[59], all[len(all)-1])
	}
}
