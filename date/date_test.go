package date_test

import (
	"math"
	"math/rand/v2"
	"testing"
	"time"

	"corebank/api"
	"corebank/date"
)

// civil is a civil date.
type civil struct{ year, month, day int }

// noDays are numbers next to the days, and far from them; the lowest 32 bits of some are those of days.
var noDays = []int{-1, -2, -31, -365, -366, -730119, api.MaxDay + 1, api.MaxDay + 2, api.MaxDay + 31, api.MaxDay + 366, 1 << 31, 1 << 32, 1<<32 + 5, -1 << 32, 5 - 1<<32,
	math.MaxInt, math.MaxInt - 1, math.MinInt, math.MinInt + 1, math.MinInt + 59}

// seeded gives the same numbers in every run.
func seeded() *rand.Rand { return rand.New(rand.NewPCG(4, 4)) }

// leap is the definition of the chapter.
func leap(year int) bool {
	if year%400 == 0 {
		return true
	}
	return year%100 != 0 && year%4 == 0
}

// length is the number of days of a month.
func length(year, month int) int {
	switch month {
	case 4, 6, 9, 11:
		return 30
	case 2:
		if leap(year) {
			return 29
		}
		return 28
	}
	return 31
}

// next is the civil date of the next day.
func next(c civil) civil {
	switch {
	case c.day < length(c.year, c.month):
		return civil{c.year, c.month, c.day + 1}
	case c.month < 12:
		return civil{c.year, c.month + 1, 1}
	}
	return civil{c.year + 1, 1, 1}
}

// dates are the civil dates of all days, found by going from each one to the next one.
func dates() []civil {
	l := []civil{{2000, 1, 1}}
	for range api.MaxDay {
		l = append(l, next(l[len(l)-1]))
	}
	return l
}

// P4.1
func TestValid(t *testing.T) {
	for day := range api.MaxDay + 1 {
		if !date.Valid(day) {
			t.Fatalf("Valid(%d) is false", day)
		}
	}
	for _, day := range noDays {
		if date.Valid(day) {
			t.Errorf("Valid(%d) is true", day)
		}
	}
}

// P4.2
func TestLeap(t *testing.T) {
	for year, want := range map[int]bool{
		2000: true, 2100: false, 2200: false, 2300: false, 2400: true, 1900: false, 1600: true, 2004: true, 2096: true, 2104: true, 2196: true, 2001: false, 2002: false, 2003: false, 2199: false,
		0: true, 1: false, 4: true, 100: false, 400: true, -1: false, -2: false, -3: false, -4: true, -100: false, -200: false, -400: true, -2000: true, -2100: false,
		// The greatest int is 207 more than a multiple of 400, and the least one is 208 less than one.
		math.MaxInt: false, math.MaxInt - 3: true, math.MaxInt - 7: false, math.MaxInt - 107: false, math.MaxInt - 207: true, math.MaxInt - 307: false, math.MaxInt - 607: true,
		math.MinInt: true, math.MinInt + 1: false, math.MinInt + 4: true, math.MinInt + 8: false, math.MinInt + 108: false, math.MinInt + 208: true, math.MinInt + 308: false, math.MinInt + 608: true,
	} {
		if date.Leap(year) != want {
			t.Errorf("Leap(%d) is %v", year, !want)
		}
	}
	for year := -5000; year <= 5000; year++ {
		if date.Leap(year) != leap(year) {
			t.Errorf("Leap(%d) is %v", year, !leap(year))
		}
	}
}

// P4.3
func TestCivil(t *testing.T) {
	for day, want := range map[int]civil{
		0: {2000, 1, 1}, 30: {2000, 1, 31}, 31: {2000, 2, 1}, 58: {2000, 2, 28}, 59: {2000, 2, 29}, 60: {2000, 3, 1}, 365: {2000, 12, 31}, 366: {2001, 1, 1}, 424: {2001, 2, 28}, 425: {2001, 3, 1},
		730: {2001, 12, 31}, 1095: {2002, 12, 31}, 1460: {2003, 12, 31}, 1461: {2004, 1, 1}, 36524: {2099, 12, 31}, 36525: {2100, 1, 1}, 36583: {2100, 2, 28}, 36584: {2100, 3, 1}, 36889: {2100, 12, 31}, 36890: {2101, 1, 1},
		api.MaxDay - 365: {2198, 12, 31}, api.MaxDay - 364: {2199, 1, 1}, api.MaxDay - 1: {2199, 12, 30}, api.MaxDay: {2199, 12, 31},
	} {
		year, month, dayOfMonth := date.Civil(day)
		if got := (civil{year, month, dayOfMonth}); got != want {
			t.Errorf("Civil(%d) is %v, not %v", day, got, want)
		}
	}
	for day, want := range dates() {
		year, month, dayOfMonth := date.Civil(day)
		if got := (civil{year, month, dayOfMonth}); got != want {
			t.Fatalf("Civil(%d) is %v, not %v", day, got, want)
		}
	}
	for _, day := range noDays {
		if year, month, dayOfMonth := date.Civil(day); year != 0 || month != 0 || dayOfMonth != 0 {
			t.Errorf("Civil(%d) is %d, %d, %d", day, year, month, dayOfMonth)
		}
	}
}

// P4.4
func TestDay(t *testing.T) {
	for day, c := range dates() {
		if got, e := date.Day(c.year, c.month, c.day); got != day || e != api.OK {
			t.Fatalf("Day of %v is %d, %d, not %d", c, got, e, day)
		}
	}
}

// noDate requires an error for a civil date, and no day.
func noDate(t *testing.T, year, month, day int) {
	t.Helper()
	if got, e := date.Day(year, month, day); got != 0 || e != api.ErrArg {
		t.Errorf("Day(%d, %d, %d) is %d, %d", year, month, day, got, e)
	}
}

// farInts are ints near the limits of int, and some with the lowest 32 bits of small numbers.
var farInts = []int{1000, 1 << 31, -1 << 31, 1<<32 + 1, 1<<32 + 2000, 1 - 1<<32, 1 << 62, math.MaxInt, math.MaxInt - 1, math.MinInt, math.MinInt + 1}

// P4.4: dates that do not exist, of every month of all years.
func TestDayThatDoesNotExist(t *testing.T) {
	noDate(t, 2001, 2, 29)
	noDate(t, 2000, 2, 30)
	noDate(t, 2100, 2, 29)
	for year := 2000; year <= 2199; year++ {
		for month := 1; month <= 12; month++ {
			for _, day := range []int{-31, -1, 0, length(year, month) + 1, length(year, month) + 2, 32, 60, 400} {
				noDate(t, year, month, day)
			}
		}
		for _, month := range []int{-12, -11, -1, 0, 13, 14, 24, 25} {
			for _, day := range []int{0, 1, 28, 31, 32} {
				noDate(t, year, month, day)
			}
		}
	}
	for _, year := range []int{1999, 2000, 2023, 2024, 2100, 2199, 2200} {
		for _, far := range farInts {
			noDate(t, year, far, 1)
			noDate(t, year, 1, far)
			noDate(t, year, 2, far)
			noDate(t, year, far, far)
		}
	}
}

// P4.4: dates that exist, but are before the first day or after the last one.
func TestDayOfOtherYears(t *testing.T) {
	years := []int{-2000, -400, -1, 0, 1, 4, 99, 100, 400, 1600, 1800, 1900, 1996, 1998, 1999, 2200, 2201, 2204, 2300, 2400, 4000, 9999, 10000}
	for _, year := range append(years, farInts...) {
		for month := 1; month <= 12; month++ {
			for day := 1; day <= length(year, month); day++ {
				noDate(t, year, month, day)
			}
		}
		noDate(t, year, 0, 0)
		noDate(t, year, 13, 32)
		noDate(t, year, math.MinInt, math.MaxInt)
	}
}

// P4.5
func TestWeekday(t *testing.T) {
	for day, want := range map[int]int{0: 5, 1: 6, 2: 0, 3: 1, 7: 5, 59: 1, 366: 0, 36525: 4, api.MaxDay: 1} {
		if got := date.Weekday(day); got != want {
			t.Errorf("Weekday(%d) is %d, not %d", day, got, want)
		}
	}
	want := 5
	for day := range api.MaxDay + 1 {
		if got := date.Weekday(day); got != want {
			t.Fatalf("Weekday(%d) is %d, not %d", day, got, want)
		}
		want++
		if want == 7 {
			want = 0
		}
	}
	for _, day := range noDays {
		if got := date.Weekday(day); got != -1 {
			t.Errorf("Weekday(%d) is %d", day, got)
		}
	}
}

// P4.3 to P4.5: the calendar of the standard library agrees.
func TestStandardLibraryAgrees(t *testing.T) {
	noon := time.Date(2000, time.January, 1, 12, 0, 0, 0, time.UTC)
	for day := range api.MaxDay + 1 {
		want := noon.AddDate(0, 0, day)
		year, month, dayOfMonth := date.Civil(day)
		if year != want.Year() || month != int(want.Month()) || dayOfMonth != want.Day() {
			t.Fatalf("Civil(%d) is %d, %d, %d, not %v", day, year, month, dayOfMonth, want)
		}
		if got, e := date.Day(want.Year(), int(want.Month()), want.Day()); got != day || e != api.OK {
			t.Fatalf("Day of %v is %d, %d, not %d", want, got, e, day)
		}
		// Sunday is the day 0 there.
		if got := date.Weekday(day); got != (int(want.Weekday())+6)%7 {
			t.Fatalf("Weekday(%d) is %d, not %v", day, got, want.Weekday())
		}
	}
}

// P4.6
func TestMonthEnd(t *testing.T) {
	for day, want := range map[int]int{0: 30, 15: 30, 30: 30, 31: 59, 58: 59, 59: 59, 60: 90, 366: 396, 397: 424, 424: 424, 425: 455, 36556: 36583, 36583: 36583, 36584: 36614, api.MaxDay - 31: api.MaxDay - 31, api.MaxDay - 30: api.MaxDay, api.MaxDay: api.MaxDay} {
		if got := date.MonthEnd(day); got != want {
			t.Errorf("MonthEnd(%d) is %d, not %d", day, got, want)
		}
	}
	all, end := dates(), api.MaxDay
	for day := api.MaxDay; day >= 0; day-- {
		if day < api.MaxDay && all[day].month != all[day+1].month {
			end = day
		}
		if got := date.MonthEnd(day); got != end {
			t.Fatalf("MonthEnd(%d) is %d, not %d", day, got, end)
		}
	}
	for _, day := range noDays {
		if got := date.MonthEnd(day); got != -1 {
			t.Errorf("MonthEnd(%d) is %d", day, got)
		}
	}
}

// P4.10
func TestDayOfCivil(t *testing.T) {
	for day := range api.MaxDay + 1 {
		year, month, dayOfMonth := date.Civil(day)
		if back, e := date.Day(year, month, dayOfMonth); back != day || e != api.OK {
			t.Fatalf("Day(%d, %d, %d) is %d, %d, not %d", year, month, dayOfMonth, back, e, day)
		}
	}
}

// P4.11: from the results alone.
func TestNextDay(t *testing.T) {
	year, month, dayOfMonth := date.Civil(0)
	if year != 2000 || month != 1 || dayOfMonth != 1 {
		t.Fatalf("Civil(0) is %d, %d, %d", year, month, dayOfMonth)
	}
	for day := range api.MaxDay {
		want := civil{year, month, dayOfMonth + 1}
		if day == date.MonthEnd(day) {
			want = civil{year + month/12, month%12 + 1, 1}
		}
		if length(year, month) == dayOfMonth != (day == date.MonthEnd(day)) {
			t.Fatalf("MonthEnd(%d) is %d, but the day of the month is %d", day, date.MonthEnd(day), dayOfMonth)
		}
		year, month, dayOfMonth = date.Civil(day + 1)
		if got := (civil{year, month, dayOfMonth}); got != want {
			t.Fatalf("Civil(%d) is %v, not %v", day+1, got, want)
		}
	}
}
