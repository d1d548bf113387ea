package calendar_test

import (
	"maps"
	"math"
	"math/rand/v2"
	"slices"
	"testing"

	"corebank/api"
	"corebank/calendar"
)

// noDays are numbers next to the days, and far from them; the lowest 32 bits of some are those of days.
var noDays = []int{-1, -2, -7, -64, -366, api.MaxDay + 1, api.MaxDay + 2, api.MaxDay + 7, api.MaxDay + 64, 1 << 31, 1 << 32, 1<<32 + 9, -1 << 32, 9 - 1<<32,
	math.MaxInt, math.MaxInt - 1, math.MinInt, math.MinInt + 1, math.MinInt + 9}

// seeded gives the same numbers in every run.
func seeded() *rand.Rand { return rand.New(rand.NewPCG(5, 5)) }

// span returns the numbers from from to to.
func span(from, to int) []int {
	var l []int
	for n := from; n <= to; n++ {
		l = append(l, n)
	}
	return l
}

// holidays returns n days, ascending.
func holidays(random *rand.Rand, n int) []int {
	days := map[int]bool{}
	for len(days) < n {
		days[random.IntN(api.MaxDay+1)] = true
	}
	return slices.Sorted(maps.Keys(days))
}

// samples are calendars of all sorts, also those that Check does not accept.
func samples() map[string]api.Calendar {
	random := seeded()
	return map[string]api.Calendar{
		"always open":              {Name: "always"},
		"empty lists":              {Name: "empty", Weekend: []int{}, Holidays: []int{}},
		"saturday and sunday":      {Name: "week", Weekend: []int{5, 6}},
		"with holidays":            {Name: "home", Weekend: []int{5, 6}, Holidays: holidays(random, api.MaxHoliday)},
		"only mondays":             {Name: "monday", Weekend: []int{1, 2, 3, 4, 5, 6}},
		"only sundays":             {Name: "sunday", Weekend: []int{0, 1, 2, 3, 4, 5}, Holidays: []int{1, 8, 15, 36, api.MaxDay - 2}},
		"ends closed":              {Name: "ends", Holidays: append(span(0, 99), span(api.MaxDay-99, api.MaxDay)...)},
		"ends alone open":          {Name: "ends", Holidays: span(1, api.MaxDay-1)},
		"first day alone open":     {Name: "first", Holidays: span(1, api.MaxDay)},
		"last day alone open":      {Name: "last", Holidays: span(0, api.MaxDay-1)},
		"one day alone open":       {Name: "one", Holidays: append(span(0, 36524), span(36526, api.MaxDay)...)},
		"months closed":            {Name: "months", Weekend: []int{6}, Holidays: append(span(60, 90), span(366, 424)...)},
		"never by weekdays":        {Name: "never", Weekend: []int{0, 1, 2, 3, 4, 5, 6}},
		"never by weekdays, mixed": {Name: "never", Weekend: []int{3, 1, 6, 9, 2, -1, 0, 5, 4, 3}, Holidays: []int{5, 4}},
		"never by holidays":        {Name: "never", Holidays: span(0, api.MaxDay)},
		"never by both":            {Name: "never", Weekend: []int{0, 1, 2, 3, 4, 5}, Holidays: span(0, api.MaxDay)},
		"unsorted": {Name: "Unsorted", Weekend: []int{6, 2, 6}, Holidays: []int{
			500, 3, 3, api.MaxDay, 0, 499, 501, 63, 65, 64, 128, 3}},
		"foreign numbers": {Weekend: []int{7, -1, 12, 13, -2, 1<<32 + 1, math.MinInt, math.MaxInt, 4}, Holidays: append([]int{40, 30}, noDays...)},
		"many lists":      {Name: "many", Weekend: slices.Repeat([]int{5, 6, 5}, 1000), Holidays: slices.Repeat([]int{900, 31, 30, 900}, 500)},
	}
}

// table tells for each day whether it is open, by the definition of the chapter. The day 0 was a Saturday.
func table(c api.Calendar) []bool {
	closed := map[int]bool{}
	for _, day := range c.Holidays {
		closed[day] = true
	}
	l := make([]bool, api.MaxDay+1)
	for day := range l {
		l[day] = !closed[day] && !slices.Contains(c.Weekend, (day+5)%7)
	}
	return l
}

// nexts returns for each day the least open day from it on, or -1.
func nexts(open []bool) []int {
	l, found := make([]int, len(open)), -1
	for day := len(open) - 1; day >= 0; day-- {
		if open[day] {
			found = day
		}
		l[day] = found
	}
	return l
}

// prevs returns for each day the greatest open day up to it, or -1.
func prevs(open []bool) []int {
	l, found := make([]int, len(open)), -1
	for day := range open {
		if open[day] {
			found = day
		}
		l[day] = found
	}
	return l
}

// daysOf returns the days to ask a calendar about: all of them if a call is short.
func daysOf(c api.Calendar) []int {
	const many, few, long = 500, 7, 3000
	if len(c.Holidays) < many && len(c.Weekend) < few {
		return span(0, api.MaxDay)
	}
	days := append(span(0, 70), span(api.MaxDay-40, api.MaxDay)...)
	days = append(days, span(36520, 36530)...)
	random := seeded()
	for range 100 {
		days = append(days, random.IntN(long), random.IntN(api.MaxDay+1))
	}
	return days
}

// copied returns a calendar with lists of its own.
func copied(c api.Calendar) api.Calendar {
	return api.Calendar{Name: c.Name, Weekend: slices.Clone(c.Weekend), Holidays: slices.Clone(c.Holidays)}
}

// equal reports whether calendars are equal.
func equal(a, b api.Calendar) bool {
	return a.Name == b.Name && slices.Equal(a.Weekend, b.Weekend) && slices.Equal(a.Holidays, b.Holidays)
}

// roomy returns a list with room behind it, and all of its memory.
func roomy(l ...int) ([]int, []int) {
	memory := append(slices.Clone(l), 77, 77, 77, 77)
	return memory[:len(l)], memory
}

// No function changes a calendar, or what is behind its lists.
func TestArgumentsRemain(t *testing.T) {
	weekend, week := roomy(6, 2, 2, -4)
	days, memory := roomy(90, 3, 3, api.MaxDay+4, 17)
	weekBefore, memoryBefore := slices.Clone(week), slices.Clone(memory)
	c := api.Calendar{Name: "home", Weekend: weekend, Holidays: days}
	list := []api.Calendar{{Name: "a"}, c}
	calendar.Check(c)
	calendar.Find(list, "home")
	calendar.Open(c, 5)
	calendar.Next(c, 5)
	calendar.Prev(c, 5)
	for rule := range 4 {
		calendar.Adjust(c, 17, rule)
	}
	calendar.Add(c, 3, 9)
	calendar.Count(c, 0, 99)
	calendar.Join(c, c)
	calendar.Join(c, api.Calendar{})
	calendar.Join(api.Calendar{}, c)
	if !slices.Equal(week, weekBefore) || !slices.Equal(memory, memoryBefore) || !equal(list[1], c) || list[0].Name != "a" || len(c.Weekend) != 4 || len(c.Holidays) != 5 {
		t.Error("an argument was changed:", c, week, memory)
	}
}

// No function keeps a calendar: another one with the same name and the same memory has its own days.
func TestArgumentsAreNotKept(t *testing.T) {
	c := api.Calendar{Name: "home", Weekend: []int{5, 6}, Holidays: []int{2}}
	for range 2 {
		if day, e := calendar.Next(c, 0); day != 3 || e != api.OK || calendar.Count(c, 0, 9) != 4 || calendar.Open(c, 2) {
			t.Error("before:", day, e)
		}
		c.Weekend[0], c.Holidays[0] = 0, 3
		if day, e := calendar.Next(c, 1); day != 4 || e != api.OK || calendar.Count(c, 0, 9) != 5 || !calendar.Open(c, 0) {
			t.Error("after:", day, e)
		}
		c.Weekend[0], c.Holidays[0] = 5, 2
	}
}
