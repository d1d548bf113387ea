package date_test

import (
	"math"
	"testing"

	"corebank/api"
	"corebank/date"
)

// maxMonths is the greatest number of months that can be added.
const maxMonths = 2400

// starts are the first days of the months from 2000 on, and the day after MaxDay.
func starts() []int {
	l := []int{0}
	for month := range maxMonths {
		l = append(l, l[month]+length(2000+month/12, month%12+1))
	}
	return l
}

// monthOf returns the number of months from January 2000 to the month of a day.
func monthOf(starts []int, day int) int {
	month := 0
	for starts[month+1] <= day {
		month++
	}
	return month
}

// moved is the day on anchor in a month, or its last day, or an error if the month is not from January 2000 to December 2199.
func moved(starts []int, month, anchor int) (int, api.Errno) {
	if month < 0 || month >= maxMonths {
		return 0, api.ErrArg
	}
	return min(starts[month]+anchor-1, starts[month+1]-1), api.OK
}

// P4.7
func TestAddMonths(t *testing.T) {
	for _, c := range []struct {
		from      string
		n, anchor int
		to        string
	}{
		{"2000-01-31", 1, 31, "2000-02-29"},
		{"2000-01-31", 2, 31, "2000-03-31"},
		{"2000-02-29", -1, 31, "2000-01-31"},
		{"2000-02-29", -1, 29, "2000-01-29"},
		{"2000-02-29", 12, 29, "2001-02-28"},
		{"2000-02-29", 12, 31, "2001-02-28"},
		{"2000-02-29", 48, 29, "2004-02-29"},
		{"2000-02-29", 1200, 29, "2100-02-28"},
		{"2096-02-29", 48, 30, "2100-02-28"},
		{"2100-02-28", 48, 30, "2104-02-29"},
		{"2000-03-31", 1, 31, "2000-04-30"},
		{"2000-03-31", 1, 30, "2000-04-30"},
		{"2000-03-31", 1, 1, "2000-04-01"},
		{"2000-03-01", 1, 31, "2000-04-30"},
		{"2000-03-15", 0, 15, "2000-03-15"},
		{"2000-03-15", 0, 1, "2000-03-01"},
		{"2000-03-15", 0, 31, "2000-03-31"},
		{"2000-04-15", 0, 31, "2000-04-30"},
		{"2000-12-31", 1, 31, "2001-01-31"},
		{"2000-11-30", 1, 31, "2000-12-31"},
		{"2000-12-31", 2, 31, "2001-02-28"},
		{"2001-01-31", -1, 31, "2000-12-31"},
		{"2001-01-01", -12, 31, "2000-01-31"},
		{"2001-12-01", -23, 1, "2000-01-01"},
		{"2000-01-01", 2399, 31, "2199-12-31"},
		{"2000-01-31", 2399, 1, "2199-12-01"},
		{"2199-12-31", -2399, 1, "2000-01-01"},
		{"2199-12-01", -2399, 31, "2000-01-31"},
		{"2199-12-31", 0, 31, "2199-12-31"},
		{"2000-01-01", 0, 1, "2000-01-01"},
		{"2199-11-30", 1, 31, "2199-12-31"},
		{"2000-02-01", -1, 1, "2000-01-01"},
	} {
		from, _ := date.Parse(c.from)
		if to, e := date.AddMonths(from, c.n, c.anchor); date.Format(to) != c.to || e != api.OK {
			t.Errorf("AddMonths(%s, %d, %d) is %s, %d, not %s", c.from, c.n, c.anchor, date.Format(to), e, c.to)
		}
	}
}

// P4.7: each number of months from some days, with each anchor.
func TestAddMonthsOfAll(t *testing.T) {
	first := starts()
	for _, day := range []int{0, 1, 30, 31, 58, 59, 60, 365, 366, 9000, 36524, 36525, 36583, 36584, 36889, 36890, 50000, api.MaxDay - 365, api.MaxDay - 31, api.MaxDay - 30, api.MaxDay - 1, api.MaxDay} {
		month := monthOf(first, day)
		for n := -maxMonths; n <= maxMonths; n++ {
			for anchor := 1; anchor <= 31; anchor++ {
				want, problem := moved(first, month+n, anchor)
				if got, e := date.AddMonths(day, n, anchor); got != want || e != problem {
					t.Fatalf("AddMonths(%d, %d, %d) is %d, %d, not %d, %d", day, n, anchor, got, e, want, problem)
				}
			}
		}
	}
}

// P4.7: each day.
func TestAddMonthsToEachDay(t *testing.T) {
	random := seeded()
	first := starts()
	month := 0
	for day := range api.MaxDay + 1 {
		if first[month+1] == day {
			month++
		}
		for _, n := range []int{0, 1, -1, 3, -6, 12, -12, 2399 - month, -month, 2400 - month, -month - 1, random.IntN(maxMonths) - month} {
			anchor := 1 + random.IntN(31)
			want, problem := moved(first, month+n, anchor)
			if got, e := date.AddMonths(day, n, anchor); got != want || e != problem {
				t.Fatalf("AddMonths(%d, %d, %d) is %d, %d, not %d, %d", day, n, anchor, got, e, want, problem)
			}
		}
	}
}

// P4.7
func TestAddMonthsErrors(t *testing.T) {
	refused := func(day, n, anchor int) {
		t.Helper()
		if got, e := date.AddMonths(day, n, anchor); got != 0 || e != api.ErrArg {
			t.Errorf("AddMonths(%d, %d, %d) is %d, %d", day, n, anchor, got, e)
		}
	}
	// Months as if the day were in another year would lead to a day.
	for _, day := range noDays {
		for _, n := range []int{0, 1, -1, 12, -12, 120, -120, maxMonths, -maxMonths} {
			for _, anchor := range []int{1, 15, 28, 31} {
				refused(day, n, anchor)
			}
		}
		refused(day, day, day)
	}
	for _, day := range []int{0, 59, 36525, api.MaxDay} {
		for _, n := range append([]int{maxMonths + 1, -maxMonths - 1, 2412, -2412, 1<<32 - 1200, 1 << 32, 3 - 1<<33}, farInts[1:]...) {
			refused(day, n, 1)
			refused(day, n, 31)
			refused(day, n, 0)
		}
		for _, anchor := range append([]int{0, -1, -31, 32, 33, 60, 1<<32 + 31}, farInts...) {
			for _, n := range []int{0, 1, -1, 24, -24, maxMonths, -maxMonths} {
				refused(day, n, anchor)
			}
		}
	}
	// The results would be before the first day or after the last one.
	refused(0, -1, 1)
	refused(30, -1, 31)
	refused(59, -2, 31)
	refused(0, -maxMonths, 1)
	refused(0, maxMonths, 1)
	refused(api.MaxDay, 1, 1)
	refused(api.MaxDay, 1, 31)
	refused(api.MaxDay-365, 13, 1)
	refused(api.MaxDay, -maxMonths, 31)
	refused(api.MaxDay, maxMonths, 31)
}

// P4.7: the day of the month of day does not matter.
func TestAddMonthsFromEachDayOfMonth(t *testing.T) {
	random := seeded()
	first := starts()
	for month := range maxMonths {
		n, anchor := random.IntN(maxMonths)-month, 1+random.IntN(31)
		want, problem := date.AddMonths(first[month], n, anchor)
		for day := first[month] + 1; day < first[month+1]; day++ {
			if got, e := date.AddMonths(day, n, anchor); got != want || e != problem {
				t.Fatalf("AddMonths(%d, %d, %d) is %d, %d, not %d, %d", day, n, anchor, got, e, want, problem)
			}
		}
	}
}

// P4.12: from the results alone.
func TestMonthsMoveAsCalendarsDo(t *testing.T) {
	random := seeded()
	for range 200000 {
		day, n, anchor := random.IntN(api.MaxDay+1), random.IntN(2*maxMonths+1)-maxMonths, 1+random.IntN(31)
		year, month, _ := date.Civil(day)
		to, e := date.AddMonths(day, n, anchor)
		months := year*12 + month - 1 + n
		if inside := months >= 2000*12 && months < 2200*12; inside != (e == api.OK) {
			t.Fatalf("AddMonths(%d, %d, %d) is %d, %d", day, n, anchor, to, e)
		}
		if e != api.OK {
			continue
		}
		toYear, toMonth, toDay := date.Civil(to)
		if toYear*12+toMonth-1 != months || toDay != anchor && (toDay > anchor || to != date.MonthEnd(to)) {
			t.Fatalf("AddMonths(%d, %d, %d) is %d, that is %d, %d, %d", day, n, anchor, to, toYear, toMonth, toDay)
		}
	}
}

// P4.12: with the same anchor, months can be added one after the other.
func TestMonthsOneByOne(t *testing.T) {
	for anchor := 1; anchor <= 31; anchor++ {
		day := anchor - 1
		for n := 1; n < maxMonths; n++ {
			step, e := date.AddMonths(day, 1, anchor)
			if e != api.OK || step <= day {
				t.Fatalf("AddMonths(%d, 1, %d) is %d, %d", day, anchor, step, e)
			}
			if whole, e := date.AddMonths(anchor-1, n, anchor); whole != step || e != api.OK {
				t.Fatalf("AddMonths(%d, %d, %d) is %d, %d, not %d", anchor-1, n, anchor, whole, e, step)
			}
			if back, e := date.AddMonths(step, -1, anchor); back != day || e != api.OK {
				t.Fatalf("AddMonths(%d, -1, %d) is %d, %d, not %d", step, anchor, back, e, day)
			}
			day = step
		}
		if got, e := date.AddMonths(day, 1, anchor); got != 0 || e != api.ErrArg {
			t.Fatalf("AddMonths(%d, 1, %d) is %d, %d", day, anchor, got, e)
		}
	}
}

// P4.7: ints that overflow if they are added before they are examined.
func TestAddMonthsOfTheGreatestInts(t *testing.T) {
	extremes := []int{math.MinInt, math.MinInt + 1, -1 << 62, 1 << 62, math.MaxInt - 1, math.MaxInt}
	for _, a := range extremes {
		for _, b := range extremes {
			for _, c := range extremes {
				if got, e := date.AddMonths(a, b, c); got != 0 || e != api.ErrArg {
					t.Errorf("AddMonths(%d, %d, %d) is %d, %d", a, b, c, got, e)
				}
			}
		}
	}
}
