package calendar_test

import (
	"math"
	"testing"

	"corebank/api"
	"corebank/calendar"
	"corebank/date"
)

// week is a calendar with an ordinary weekend.
var week = api.Calendar{Name: "week", Weekend: []int{5, 6}}

// result is what an oracle and the program answer for a day.
type result struct {
	day     int
	problem api.Errno
}

// found is the result for a day, or for none if it is -1.
func found(day int) result {
	if day < 0 {
		return result{0, api.ErrNotFound}
	}
	return result{day, api.OK}
}

// day returns the day with a text.
func day(t *testing.T, s string) int {
	t.Helper()
	n, e := date.Parse(s)
	if e != api.OK {
		t.Fatalf("%q is no day", s)
	}
	return n
}

// P5.3
func TestOpen(t *testing.T) {
	for name, c := range samples() {
		open := table(c)
		for _, day := range daysOf(c) {
			if calendar.Open(c, day) != open[day] {
				t.Fatalf("%s: Open(%d) is %v", name, day, !open[day])
			}
		}
		for _, day := range noDays {
			if calendar.Open(c, day) {
				t.Errorf("%s: Open(%d) is true", name, day)
			}
		}
	}
}

// P5.3: each weekday and each holiday closes only its days.
func TestOpenOfOneClosedDay(t *testing.T) {
	for weekday := range 7 {
		c := api.Calendar{Weekend: []int{weekday}}
		for day := range 800 {
			if calendar.Open(c, day) != ((day+5)%7 != weekday) {
				t.Errorf("with the weekend %d, Open(%d) is wrong", weekday, day)
			}
		}
	}
	for _, holiday := range []int{0, 1, 62, 63, 64, 65, 127, 128, 36525, api.MaxDay - 1, api.MaxDay} {
		c := api.Calendar{Holidays: []int{holiday}}
		for _, day := range append(span(0, 200), holiday-1, holiday, holiday+1, holiday-64, holiday+64) {
			if calendar.Open(c, day) != (date.Valid(day) && day != holiday) {
				t.Errorf("with the holiday %d, Open(%d) is wrong", holiday, day)
			}
		}
	}
}

// P5.4
func TestNextAndPrev(t *testing.T) {
	for name, c := range samples() {
		open := table(c)
		next, prev := nexts(open), prevs(open)
		for _, day := range daysOf(c) {
			if got, e := calendar.Next(c, day); (result{got, e}) != found(next[day]) {
				t.Fatalf("%s: Next(%d) is %d, %d, not %d", name, day, got, e, next[day])
			}
			if got, e := calendar.Prev(c, day); (result{got, e}) != found(prev[day]) {
				t.Fatalf("%s: Prev(%d) is %d, %d, not %d", name, day, got, e, prev[day])
			}
		}
	}
}

// P5.4: ErrArg comes first, also where no day is open.
func TestNextAndPrevOfNoDay(t *testing.T) {
	for name, c := range samples() {
		for _, day := range noDays {
			if got, e := calendar.Next(c, day); got != 0 || e != api.ErrArg {
				t.Errorf("%s: Next(%d) is %d, %d", name, day, got, e)
			}
			if got, e := calendar.Prev(c, day); got != 0 || e != api.ErrArg {
				t.Errorf("%s: Prev(%d) is %d, %d", name, day, got, e)
			}
		}
	}
}

// P5.3 to P5.7: the examples of the chapter.
func TestExamples(t *testing.T) {
	if got, e := calendar.Next(week, 0); got != 2 || e != api.OK {
		t.Error("Next:", got, e)
	}
	if got, e := calendar.Prev(week, 0); got != 0 || e != api.ErrNotFound {
		t.Error("Prev:", got, e)
	}
	if got, e := calendar.Add(week, 0, 5); got != 6 || e != api.OK {
		t.Error("Add:", got, e)
	}
	if got := calendar.Count(week, 0, 9); got != 5 {
		t.Error("Count:", got)
	}
	if got, e := calendar.Adjust(week, 29, api.AdFollowing); got != 30 || e != api.OK {
		t.Error("Adjust by AdFollowing:", got, e)
	}
	if got, e := calendar.Adjust(week, 119, api.AdModified); got != 118 || e != api.OK {
		t.Error("Adjust by AdModified:", got, e)
	}
}

// P5.5: the ends of months.
func TestAdjust(t *testing.T) {
	may := day(t, "2000-05-01")
	holiday := api.Calendar{Weekend: []int{5, 6}, Holidays: []int{may, day(t, "2000-12-29")}}
	april := api.Calendar{Holidays: span(day(t, "2000-04-01"), day(t, "2000-04-30"))}
	december := api.Calendar{Holidays: span(api.MaxDay-30, api.MaxDay)}
	january := api.Calendar{Holidays: span(0, 30)}
	lastDays := api.Calendar{Holidays: []int{api.MaxDay - 1, api.MaxDay}}
	for _, c := range []struct {
		in      api.Calendar
		from    string
		rule    int
		to      string
		problem api.Errno
	}{
		{week, "2000-04-28", api.AdNone, "2000-04-28", 0},
		{week, "2000-04-28", api.AdFollowing, "2000-04-28", 0},
		{week, "2000-04-28", api.AdModified, "2000-04-28", 0},
		{week, "2000-04-28", api.AdPreceding, "2000-04-28", 0},
		{week, "2000-04-29", api.AdNone, "2000-04-29", 0},
		{week, "2000-04-29", api.AdFollowing, "2000-05-01", 0},
		{week, "2000-04-29", api.AdModified, "2000-04-28", 0},
		{week, "2000-04-29", api.AdPreceding, "2000-04-28", 0},
		{week, "2000-04-30", api.AdModified, "2000-04-28", 0},
		{week, "2000-04-22", api.AdModified, "2000-04-24", 0},
		{week, "2000-04-22", api.AdPreceding, "2000-04-21", 0},
		{week, "2000-07-01", api.AdModified, "2000-07-03", 0},
		{week, "2000-07-01", api.AdPreceding, "2000-06-30", 0},
		// The next business day is the last day of the month.
		{week, "2000-07-30", api.AdModified, "2000-07-31", 0},
		{week, "2000-12-30", api.AdModified, "2000-12-29", 0},
		{week, "2000-12-31", api.AdFollowing, "2001-01-01", 0},
		{holiday, "2000-04-30", api.AdFollowing, "2000-05-02", 0},
		{holiday, "2000-05-01", api.AdPreceding, "2000-04-28", 0},
		{holiday, "2000-05-01", api.AdModified, "2000-05-02", 0},
		{holiday, "2000-12-31", api.AdModified, "2000-12-28", 0},
		// Where the whole month is closed, the day before it is the one that is asked for.
		{april, "2000-04-15", api.AdModified, "2000-03-31", 0},
		{april, "2000-04-01", api.AdModified, "2000-03-31", 0},
		{april, "2000-04-15", api.AdFollowing, "2000-05-01", 0},
		{april, "2000-04-15", api.AdNone, "2000-04-15", 0},
		{december, "2199-12-15", api.AdModified, "2199-11-30", 0},
		{december, "2199-12-15", api.AdFollowing, "", api.ErrNotFound},
		{december, "2199-12-15", api.AdPreceding, "2199-11-30", 0},
		{lastDays, "2199-12-31", api.AdModified, "2199-12-29", 0},
		{lastDays, "2199-12-31", api.AdFollowing, "", api.ErrNotFound},
		{january, "2000-01-15", api.AdModified, "", api.ErrNotFound},
		{january, "2000-01-15", api.AdPreceding, "", api.ErrNotFound},
		{january, "2000-01-15", api.AdFollowing, "2000-02-01", 0},
		{january, "2000-01-15", api.AdNone, "2000-01-15", 0},
		{week, "2000-01-01", api.AdModified, "2000-01-03", 0},
		{week, "2000-01-01", api.AdPreceding, "", api.ErrNotFound},
		{api.Calendar{Holidays: span(0, 365)}, "2000-03-01", api.AdFollowing, "2001-01-01", 0},
		// The same month of the next year is another month.
		{api.Calendar{Holidays: span(60, 425)}, "2000-03-01", api.AdModified, "2000-02-29", 0},
	} {
		got, e := calendar.Adjust(c.in, day(t, c.from), c.rule)
		if e != c.problem || e == api.OK && date.Format(got) != c.to || e != api.OK && got != 0 {
			t.Errorf("Adjust(%s) by %d is %s, %d, not %s, %d", c.from, c.rule, date.Format(got), e, c.to, c.problem)
		}
	}
}

// P5.5: each rule, for each day.
func TestAdjustOfAll(t *testing.T) {
	for name, c := range samples() {
		open := table(c)
		next, prev := nexts(open), prevs(open)
		for _, day := range daysOf(c) {
			modified := next[day]
			if modified < 0 || !sameMonth(modified, day) {
				modified = prev[day]
			}
			for rule, want := range []result{api.AdNone: {day, api.OK}, api.AdFollowing: found(next[day]), api.AdModified: found(modified), api.AdPreceding: found(prev[day])} {
				if got, e := calendar.Adjust(c, day, rule); (result{got, e}) != want {
					t.Fatalf("%s: Adjust(%d) by %d is %d, %d, not %v", name, day, rule, got, e, want)
				}
			}
		}
	}
}

// sameMonth reports whether days are in the same month of the same year.
func sameMonth(a, b int) bool {
	yearA, monthA, _ := date.Civil(a)
	yearB, monthB, _ := date.Civil(b)
	return yearA == yearB && monthA == monthB
}

// noRules are numbers that are no rules.
var noRules = []int{-1, -2, 4, 5, 1 << 32, 1<<32 + 1, math.MaxInt, math.MinInt, math.MinInt + 1}

// P5.5: an argument that is none is the first error, also where no day is open.
func TestAdjustErrors(t *testing.T) {
	never := api.Calendar{Weekend: span(0, 6)}
	for _, c := range []api.Calendar{week, {}, never} {
		for _, no := range noDays {
			for rule := range 4 {
				if got, e := calendar.Adjust(c, no, rule); got != 0 || e != api.ErrArg {
					t.Errorf("Adjust(%d) by %d is %d, %d", no, rule, got, e)
				}
			}
		}
		for _, rule := range noRules {
			for _, at := range append([]int{0, 2, 29, api.MaxDay}, noDays...) {
				if got, e := calendar.Adjust(c, at, rule); got != 0 || e != api.ErrArg {
					t.Errorf("Adjust(%d) by %d is %d, %d", at, rule, got, e)
				}
			}
		}
	}
	for rule := api.AdFollowing; rule <= api.AdPreceding; rule++ {
		for _, at := range []int{0, 30, 36525, api.MaxDay} {
			if got, e := calendar.Adjust(never, at, rule); got != 0 || e != api.ErrNotFound {
				t.Errorf("Adjust(%d) by %d is %d, %d", at, rule, got, e)
			}
		}
	}
	for _, at := range []int{0, 30, 36525, api.MaxDay} {
		if got, e := calendar.Adjust(never, at, api.AdNone); got != at || e != api.OK {
			t.Errorf("Adjust(%d) by AdNone is %d, %d", at, got, e)
		}
	}
}

// numbers are numbers of days to add.
var numbers = []int{1, 2, 3, 5, 7, 20, 64, 250, 999, 1000}

// P5.6
func TestAdd(t *testing.T) {
	for name, c := range samples() {
		var open []int
		isOpen, later := table(c), make([]int, api.MaxDay+1)
		for day := range isOpen {
			if isOpen[day] {
				open = append(open, day)
			}
			// This is the place of the first open day after day.
			later[day] = len(open)
		}
		for _, day := range append([]int{0, 1, 2, 6, 7, 29, 36524, 36525, 36526, api.MaxDay - 1400, api.MaxDay - 1001, api.MaxDay - 1000, api.MaxDay - 999, api.MaxDay - 8, api.MaxDay - 1, api.MaxDay}, holidays(seeded(), 50)...) {
			for _, n := range numbers {
				want := result{0, api.ErrNotFound}
				if at := later[day] + n - 1; at < len(open) {
					want = result{open[at], api.OK}
				}
				if got, e := calendar.Add(c, day, n); (result{got, e}) != want {
					t.Fatalf("%s: Add(%d, %d) is %d, %d, not %v", name, day, n, got, e, want)
				}
			}
		}
	}
}

// P5.6: the last days, and all numbers.
func TestAddToTheEnd(t *testing.T) {
	for n := 1; n <= 1000; n++ {
		for _, day := range []int{0, api.MaxDay - 1000} {
			if got, e := calendar.Add(api.Calendar{}, day, n); got != day+n || e != api.OK {
				t.Fatalf("Add(%d, %d) is %d, %d", day, n, got, e)
			}
		}
		if got, e := calendar.Add(api.Calendar{}, api.MaxDay-n, n); got != api.MaxDay || e != api.OK {
			t.Fatalf("Add(%d, %d) is %d, %d", api.MaxDay-n, n, got, e)
		}
		if got, e := calendar.Add(api.Calendar{}, api.MaxDay-n+1, n); got != 0 || e != api.ErrNotFound {
			t.Fatalf("Add(%d, %d) is %d, %d", api.MaxDay-n+1, n, got, e)
		}
	}
}

// P5.6: an argument that is none is the first error, also where there is no such day.
func TestAddErrors(t *testing.T) {
	for _, c := range []api.Calendar{week, {}, {Weekend: span(0, 6)}} {
		for _, no := range noDays {
			for _, n := range []int{1, 5, 1000, 0, -1, 1001} {
				if got, e := calendar.Add(c, no, n); got != 0 || e != api.ErrArg {
					t.Errorf("Add(%d, %d) is %d, %d", no, n, got, e)
				}
			}
		}
		for _, n := range []int{0, -1, -2, -1000, 1001, 1002, 5000, api.MaxDay, 1 << 32, 1<<32 + 1, math.MaxInt, math.MinInt, math.MinInt + 1} {
			for _, at := range []int{0, 1, 5000, api.MaxDay - 1, api.MaxDay} {
				if got, e := calendar.Add(c, at, n); got != 0 || e != api.ErrArg {
					t.Errorf("Add(%d, %d) is %d, %d", at, n, got, e)
				}
			}
		}
	}
}

// counted is the number of the open days that Count counts, by the numbers of open days before each day.
func counted(before []int, from, to int) int {
	place := func(n int) int { return min(max(n, 0), api.MaxDay+1) }
	if from >= to {
		return 0
	}
	return before[place(to)] - before[place(from)]
}

// opened returns for each day, and for the one after the last, the number of open days before it.
func opened(c api.Calendar) []int {
	before := []int{0}
	for day, open := range table(c) {
		n := before[day]
		if open {
			n++
		}
		before = append(before, n)
	}
	return before
}

// P5.7: spans between any numbers.
func TestCount(t *testing.T) {
	places := append([]int{0, 1, 2, 7, 9, 29, 30, 31, 63, 64, 65, 366, 36524, 36525, 36526, api.MaxDay - 7, api.MaxDay - 1, api.MaxDay}, noDays...)
	for name, c := range samples() {
		before := opened(c)
		for _, from := range places {
			for _, to := range places {
				if got, want := calendar.Count(c, from, to), counted(before, from, to); got != want {
					t.Fatalf("%s: Count(%d, %d) is %d, not %d", name, from, to, got, want)
				}
			}
		}
	}
}

// P5.7: short spans everywhere.
func TestCountOfShortSpans(t *testing.T) {
	for name, c := range samples() {
		random := seeded()
		before := opened(c)
		for range 500 {
			from := random.IntN(api.MaxDay+200) - 100
			to := from + random.IntN(80) - 10
			if got, want := calendar.Count(c, from, to), counted(before, from, to); got != want {
				t.Fatalf("%s: Count(%d, %d) is %d, not %d", name, from, to, got, want)
			}
		}
	}
}

// P5.7: all the days of calendars that are easy to count.
func TestCountOfAll(t *testing.T) {
	for want, c := range map[int]api.Calendar{
		api.MaxDay + 1:   {},
		api.MaxDay:       {Holidays: []int{7}},
		api.MaxDay - 1:   {Holidays: []int{api.MaxDay, 0, 0, api.MaxDay + 1, -1}},
		1:                {Holidays: span(1, api.MaxDay)},
		0:                {Weekend: span(0, 6)},
		(api.MaxDay) / 7: {Weekend: []int{0, 1, 2, 4, 5, 6}},
	} {
		for _, ends := range [][2]int{{0, api.MaxDay + 1}, {-1, api.MaxDay + 2}, {math.MinInt, math.MaxInt}, {0, math.MaxInt}, {math.MinInt, api.MaxDay + 1}} {
			if got := calendar.Count(c, ends[0], ends[1]); got != want {
				t.Errorf("Count(%d, %d) is %d, not %d", ends[0], ends[1], got, want)
			}
		}
	}
}

// P5.9: from the results alone.
func TestCountOfAdjoiningSpans(t *testing.T) {
	for name, c := range samples() {
		random := seeded()
		for range 60 {
			from := random.IntN(api.MaxDay+400) - 200
			middle := from + random.IntN(3000)
			to := middle + random.IntN(3000)
			first, second, whole := calendar.Count(c, from, middle), calendar.Count(c, middle, to), calendar.Count(c, from, to)
			if first+second != whole {
				t.Fatalf("%s: from %d to %d there are %d, to %d more %d, together %d", name, from, middle, first, to, second, whole)
			}
		}
		for _, middle := range append([]int{0, 1, 36525, api.MaxDay}, noDays...) {
			first, second, whole := calendar.Count(c, math.MinInt, middle), calendar.Count(c, middle, math.MaxInt), calendar.Count(c, math.MinInt, math.MaxInt)
			if first+second != whole {
				t.Fatalf("%s: up to %d there are %d, from there %d, together %d", name, middle, first, second, whole)
			}
		}
	}
}

// P5.4, P5.6, P5.7: the searches and the count agree.
func TestCountOfAdd(t *testing.T) {
	for name, c := range samples() {
		random := seeded()
		for range 200 {
			day, n := random.IntN(api.MaxDay+1), 1+random.IntN(1000)
			to, e := calendar.Add(c, day, n)
			if e == api.ErrNotFound && calendar.Count(c, day+1, api.MaxDay+1) < n {
				continue
			}
			if e != api.OK || !calendar.Open(c, to) || calendar.Count(c, day+1, to+1) != n {
				t.Fatalf("%s: Add(%d, %d) is %d, %d", name, day, n, to, e)
			}
		}
	}
}
