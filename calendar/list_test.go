package calendar_test

import (
	"math"
	"slices"
	"strings"
	"testing"

	"corebank/api"
	"corebank/calendar"
)

// P5.1
func TestCheck(t *testing.T) {
	full := holidays(seeded(), api.MaxHoliday)
	for name, c := range map[string]struct {
		c       api.Calendar
		problem api.Errno
	}{
		"an ordinary one":            {api.Calendar{Name: "home", Weekend: []int{5, 6}, Holidays: []int{0, 1, 90, api.MaxDay}}, api.OK},
		"nil lists":                  {api.Calendar{Name: "home"}, api.OK},
		"empty lists":                {api.Calendar{Name: "home", Weekend: []int{}, Holidays: []int{}}, api.OK},
		"as much as possible":        {api.Calendar{Name: "abcdefghijklmn_9", Weekend: span(0, 5), Holidays: full}, api.OK},
		"the last weekdays":          {api.Calendar{Name: "z", Weekend: span(1, 6)}, api.OK},
		"the first day":              {api.Calendar{Name: "a", Holidays: []int{0}}, api.OK},
		"the last day":               {api.Calendar{Name: "a", Holidays: []int{api.MaxDay}}, api.OK},
		"holidays in the weekend":    {api.Calendar{Name: "a", Weekend: []int{5, 6}, Holidays: []int{0, 1}}, api.OK},
		"no name":                    {api.Calendar{}, api.ErrName},
		"seven weekdays":             {api.Calendar{Name: "a", Weekend: span(0, 6)}, api.ErrArg},
		"seven weekdays, not sorted": {api.Calendar{Name: "a", Weekend: []int{6, 5, 4, 3, 2, 1, 0}}, api.ErrArg},
		"weekdays descend":           {api.Calendar{Name: "a", Weekend: []int{6, 5}}, api.ErrArg},
		"weekdays descend later":     {api.Calendar{Name: "a", Weekend: []int{0, 1, 2, 3, 5, 4}}, api.ErrArg},
		"a weekday twice":            {api.Calendar{Name: "a", Weekend: []int{5, 5}}, api.ErrArg},
		"a weekday less than 0":      {api.Calendar{Name: "a", Weekend: []int{-1, 5}}, api.ErrArg},
		"a weekday of 7":             {api.Calendar{Name: "a", Weekend: []int{5, 7}}, api.ErrArg},
		"one holiday too many":       {api.Calendar{Name: "a", Holidays: span(100, 100+api.MaxHoliday)}, api.ErrLimit},
		"a holiday before the first": {api.Calendar{Name: "a", Holidays: []int{-1, 5}}, api.ErrArg},
		"a holiday after the last":   {api.Calendar{Name: "a", Holidays: []int{5, api.MaxDay + 1}}, api.ErrArg},
		"holidays descend":           {api.Calendar{Name: "a", Holidays: []int{6, 5}}, api.ErrOrder},
		"holidays descend later":     {api.Calendar{Name: "a", Holidays: []int{1, 2, 9, 8, 10}}, api.ErrOrder},
		"a holiday twice":            {api.Calendar{Name: "a", Holidays: []int{5, 5}}, api.ErrOrder},
		"the last holiday twice":     {api.Calendar{Name: "a", Holidays: []int{1, 5, api.MaxDay, api.MaxDay}}, api.ErrOrder},
	} {
		before := copied(c.c)
		if problem := calendar.Check(c.c); problem != c.problem {
			t.Errorf("%s: %d, want %d", name, problem, c.problem)
		}
		if !equal(c.c, before) {
			t.Errorf("%s: Check changed the calendar", name)
		}
	}
}

// P5.1: the first of several errors, also where a later element would be the first one that is wrong.
func TestCheckOrderOfErrors(t *testing.T) {
	many := slices.Repeat([]int{-1}, api.MaxHoliday+1)
	for name, c := range map[string]struct {
		c       api.Calendar
		problem api.Errno
	}{
		"a name before weekdays":            {api.Calendar{Name: "A", Weekend: []int{9}}, api.ErrName},
		"a name before all":                 {api.Calendar{Weekend: span(0, 6), Holidays: many}, api.ErrName},
		"a name before a limit":             {api.Calendar{Name: "1", Holidays: many}, api.ErrName},
		"a name before an order":            {api.Calendar{Name: "_", Holidays: []int{2, 1}}, api.ErrName},
		"weekdays before a limit":           {api.Calendar{Name: "a", Weekend: []int{6, 5}, Holidays: span(0, api.MaxHoliday)}, api.ErrArg},
		"weekdays before an order":          {api.Calendar{Name: "a", Weekend: span(0, 6), Holidays: []int{2, 1}}, api.ErrArg},
		"a limit before a holiday":          {api.Calendar{Name: "a", Holidays: many}, api.ErrLimit},
		"a limit before an order":           {api.Calendar{Name: "a", Holidays: slices.Repeat([]int{3}, api.MaxHoliday+1)}, api.ErrLimit},
		"a holiday before an order":         {api.Calendar{Name: "a", Holidays: []int{5, -1}}, api.ErrArg},
		"a later holiday before an order":   {api.Calendar{Name: "a", Holidays: []int{5, 4, 3, 3, 9, api.MaxDay + 1}}, api.ErrArg},
		"a later holiday below":             {api.Calendar{Name: "a", Holidays: []int{9, 9, math.MinInt}}, api.ErrArg},
		"the greatest int before an order":  {api.Calendar{Name: "a", Holidays: []int{9, 9, math.MaxInt}}, api.ErrArg},
		"an order at the end of what fits":  {api.Calendar{Name: "a", Holidays: append(span(1, api.MaxHoliday-1), 0)}, api.ErrOrder},
		"a holiday at the end of what fits": {api.Calendar{Name: "a", Holidays: append(span(1, api.MaxHoliday-1), -1)}, api.ErrArg},
	} {
		if problem := calendar.Check(c.c); problem != c.problem {
			t.Errorf("%s: %d, want %d", name, problem, c.problem)
		}
	}
}

// P5.1: names of each length, with each byte at each place.
func TestCheckNames(t *testing.T) {
	named := func(name string, valid bool) {
		t.Helper()
		want := api.ErrName
		if valid {
			want = api.OK
		}
		if problem := calendar.Check(api.Calendar{Name: name, Weekend: []int{6}}); problem != want {
			t.Errorf("the name %.40q: %d, want %d", name, problem, want)
		}
	}
	for length := range 40 {
		for _, c := range "az09_AZ-" {
			named(strings.Repeat("m", length)+string(c), length < 16 && c != 'A' && c != 'Z' && c != '-' && (length > 0 || c == 'a' || c == 'z'))
		}
	}
	named(strings.Repeat("a", 1<<20), false)
	const first, later = "abcdefghijklmnopqrstuvwxyz", "abcdefghijklmnopqrstuvwxyz0123456789_"
	for place := range 5 {
		for b := range 256 {
			name := []byte("ab_3z")
			name[place] = byte(b)
			allowed := later
			if place == 0 {
				allowed = first
			}
			named(string(name), strings.Contains(allowed, string(name[place:place+1])))
		}
	}
	for _, name := range []string{"home ", " home", "ho me", "home\n", "home\x00", "Home", "hOme", "höme", "ä", "ａ", "а", "1a", "_a", "ho-me", "ho.me", "\xff"} {
		named(name, false)
	}
}

// P5.1: every list of up to three weekdays, and the numbers around the limits at each place of longer ones.
func TestCheckWeekends(t *testing.T) {
	check := func(l ...int) {
		t.Helper()
		want := api.OK
		for at, n := range l {
			if len(l) > 6 || n < 0 || n > 6 || at > 0 && n <= l[at-1] {
				want = api.ErrArg
			}
		}
		if problem := calendar.Check(api.Calendar{Name: "a", Weekend: l, Holidays: []int{3}}); problem != want {
			t.Errorf("the weekend %v: %d, want %d", l, problem, want)
		}
	}
	for a := -2; a < 9; a++ {
		check(a)
		for b := -2; b < 9; b++ {
			check(a, b)
			for c := -2; c < 9; c++ {
				check(a, b, c)
			}
		}
	}
	for missing := range 7 {
		l := slices.Delete(span(0, 6), missing, missing+1)
		check(l...)
		for place := range l {
			for _, n := range []int{-1, 0, 3, 6, 7, 1<<32 + l[place], math.MaxInt, math.MinInt} {
				other := slices.Clone(l)
				other[place] = n
				check(other...)
			}
		}
	}
	check(0, 1, 2, 3, 4, 5, 6, 7)
	check(slices.Repeat([]int{5}, 5000)...)
}

// P5.1: each place of a list of holidays.
func TestCheckHolidays(t *testing.T) {
	for place := range api.MaxHoliday {
		c := api.Calendar{Name: "a", Holidays: span(1000, 999+api.MaxHoliday)}
		if problem := calendar.Check(c); problem != api.OK {
			t.Fatalf("Check is %d", problem)
		}
		for _, no := range noDays {
			c.Holidays[place] = no
			if problem := calendar.Check(c); problem != api.ErrArg {
				t.Fatalf("with %d at %d: %d", no, place, problem)
			}
		}
		if place > 0 {
			for _, less := range []int{0, 999 + place, 998 + place} {
				c.Holidays[place] = less
				if problem := calendar.Check(c); problem != api.ErrOrder {
					t.Fatalf("with %d at %d: %d", less, place, problem)
				}
			}
		}
	}
	for length := range 2 * api.MaxHoliday {
		want := api.OK
		if length > api.MaxHoliday {
			want = api.ErrLimit
		}
		if problem := calendar.Check(api.Calendar{Name: "a", Holidays: span(1, length)}); problem != want {
			t.Fatalf("%d holidays: %d", length, problem)
		}
	}
}

// P5.2
func TestFind(t *testing.T) {
	l := []api.Calendar{
		{Name: "home", Weekend: []int{5, 6}, Holidays: []int{3, 9}}, {Name: "away", Weekend: []int{4}}, {Name: "home", Weekend: []int{0}, Holidays: []int{1}},
		{Weekend: []int{9, -9, 9}, Holidays: []int{-1}}, {Name: "No Name", Holidays: slices.Repeat([]int{7}, 1000)}, {Name: "\xff"}, {Name: "away"},
	}
	for name, place := range map[string]int{"home": 0, "away": 1, "": 3, "No Name": 4, "\xff": 5} {
		if c, ok := calendar.Find(l, name); !ok || !equal(c, l[place]) {
			t.Errorf("Find(%q) is %v, %v", name, c, ok)
		}
	}
	for _, name := range []string{"hom", "homes", "Home", "ome", "home ", "\xfe", "no name", "\x00", strings.Repeat("home", 1000)} {
		if c, ok := calendar.Find(l, name); ok || !equal(c, api.Calendar{}) {
			t.Errorf("Find(%q) is %v, %v", name, c, ok)
		}
	}
	for _, none := range [][]api.Calendar{nil, {}} {
		for _, name := range []string{"", "home"} {
			if c, ok := calendar.Find(none, name); ok || !equal(c, api.Calendar{}) {
				t.Errorf("Find(%q) in no list is %v, %v", name, c, ok)
			}
		}
	}
	long := append(slices.Repeat([]api.Calendar{{Name: "a"}}, 5000), api.Calendar{Name: "b", Weekend: []int{2}}, api.Calendar{Name: "b"})
	if c, ok := calendar.Find(long, "b"); !ok || !equal(c, api.Calendar{Name: "b", Weekend: []int{2}}) {
		t.Error("the last but one is found as", c, ok)
	}
}

// P5.2: the result has lists of its own.
func TestFindCopies(t *testing.T) {
	weekend, week := roomy(5, 6)
	days, memory := roomy(3, 9)
	l := []api.Calendar{{Name: "home", Weekend: weekend, Holidays: days}}
	c, _ := calendar.Find(l, "home")
	_ = append(c.Weekend, 1)
	_ = append(c.Holidays, 1)
	c.Weekend[0], c.Holidays[1] = 1, 1
	if !slices.Equal(week[:4], []int{5, 6, 77, 77}) || !slices.Equal(memory[:4], []int{3, 9, 77, 77}) {
		t.Error("the result shares memory with the list:", week, memory)
	}
	l[0].Weekend[1], l[0].Holidays[0] = 2, 2
	if !equal(c, api.Calendar{Name: "home", Weekend: []int{1, 6}, Holidays: []int{3, 1}}) {
		t.Error("the list shares memory with the result:", c)
	}
}

// P5.8
func TestJoin(t *testing.T) {
	for name, c := range map[string]struct{ a, b, want api.Calendar }{
		"example 3":       {api.Calendar{Name: "a", Weekend: []int{5, 6}}, api.Calendar{Name: "b", Weekend: []int{4, 5}}, api.Calendar{Name: "a", Weekend: []int{4, 5, 6}}},
		"nothing":         {api.Calendar{}, api.Calendar{}, api.Calendar{}},
		"empty lists":     {api.Calendar{Weekend: []int{}}, api.Calendar{Holidays: []int{}}, api.Calendar{}},
		"the name of a":   {api.Calendar{}, api.Calendar{Name: "b", Holidays: []int{3}}, api.Calendar{Holidays: []int{3}}},
		"any name":        {api.Calendar{Name: "Not a name"}, api.Calendar{Name: "b"}, api.Calendar{Name: "Not a name"}},
		"a alone":         {api.Calendar{Name: "a", Weekend: []int{1}, Holidays: []int{2, 4}}, api.Calendar{}, api.Calendar{Name: "a", Weekend: []int{1}, Holidays: []int{2, 4}}},
		"holidays":        {api.Calendar{Name: "a", Holidays: []int{1, 5, 9}}, api.Calendar{Name: "b", Holidays: []int{0, 5, 6, 10}}, api.Calendar{Name: "a", Holidays: []int{0, 1, 5, 6, 9, 10}}},
		"all weekdays":    {api.Calendar{Name: "a", Weekend: []int{0, 2, 4, 6}}, api.Calendar{Weekend: []int{1, 3, 5}}, api.Calendar{Name: "a", Weekend: span(0, 6)}},
		"lists separate":  {api.Calendar{Weekend: []int{1}, Holidays: []int{2}}, api.Calendar{Weekend: []int{3}, Holidays: []int{4}}, api.Calendar{Weekend: []int{1, 3}, Holidays: []int{2, 4}}},
		"unsorted, twice": {api.Calendar{Weekend: []int{6, 1, 6}, Holidays: []int{9, 9, 3}}, api.Calendar{Weekend: []int{1, 0}, Holidays: []int{3, 1, 9}}, api.Calendar{Weekend: []int{0, 1, 6}, Holidays: []int{1, 3, 9}}},
		"foreign numbers": {api.Calendar{Weekend: []int{9, math.MaxInt, -1}, Holidays: []int{math.MinInt, api.MaxDay + 1}}, api.Calendar{Weekend: []int{math.MinInt, 9}, Holidays: []int{-1, -1, math.MaxInt}},
			api.Calendar{Weekend: []int{math.MinInt, -1, 9, math.MaxInt}, Holidays: []int{math.MinInt, -1, api.MaxDay + 1, math.MaxInt}}},
	} {
		if got := calendar.Join(c.a, c.b); !equal(got, c.want) {
			t.Errorf("%s: %v, not %v", name, got, c.want)
		}
	}
}

// united returns the numbers that occur in a or in b, by looking for each number that lies between the least and the greatest one.
func united(a, b []int) []int {
	var l []int
	for n := -20; n <= 520; n++ {
		if slices.Contains(a, n) || slices.Contains(b, n) {
			l = append(l, n)
		}
	}
	return l
}

// P5.8: any lists.
func TestJoinOfAny(t *testing.T) {
	random := seeded()
	numbers := func(most, from, to int) []int {
		l := make([]int, random.IntN(most))
		for i := range l {
			l[i] = from + random.IntN(to-from+1)
		}
		return l
	}
	for range 3000 {
		a := api.Calendar{Name: "a", Weekend: numbers(9, -2, 9), Holidays: numbers(50, -20, 520)}
		b := api.Calendar{Name: "b", Weekend: numbers(9, -2, 9), Holidays: numbers(50, -20, 520)}
		want := api.Calendar{Name: "a", Weekend: united(a.Weekend, b.Weekend), Holidays: united(a.Holidays, b.Holidays)}
		if got := calendar.Join(a, b); !equal(got, want) {
			t.Fatalf("Join of %v and %v is %v", a, b, got)
		}
	}
}

// P5.8: the result has lists of its own, also where one of the calendars has nothing to add.
func TestJoinCopies(t *testing.T) {
	weekend, week := roomy(5, 6)
	days, memory := roomy(3, 9)
	c := api.Calendar{Name: "home", Weekend: weekend, Holidays: days}
	for _, j := range []api.Calendar{calendar.Join(c, api.Calendar{}), calendar.Join(api.Calendar{}, c), calendar.Join(c, c), calendar.Join(c, api.Calendar{Weekend: []int{7}, Holidays: []int{7}})} {
		_ = append(j.Weekend, 1)
		_ = append(j.Holidays, 1)
		j.Weekend[0], j.Holidays[0] = 1, 1
		if !slices.Equal(week[:4], []int{5, 6, 77, 77}) || !slices.Equal(memory[:4], []int{3, 9, 77, 77}) {
			t.Error("the result shares memory with an argument:", week, memory)
		}
	}
	both := api.Calendar{Name: "both", Weekend: days, Holidays: days}
	j := calendar.Join(both, both)
	j.Weekend[0] = 1
	if !slices.Equal(j.Holidays, []int{3, 9}) {
		t.Error("the lists of the result share memory:", j)
	}
}

// P5.10: a day is open in the join of any two calendars exactly if it is open in both.
func TestOpenInJoin(t *testing.T) {
	all := samples()
	for nameA, a := range all {
		for nameB, b := range all {
			j := calendar.Join(a, b)
			days := append([]int{0, 1, 30, 31, 40, 64, 500, 900, 36525, api.MaxDay - 1, api.MaxDay}, noDays...)
			random := seeded()
			for range 8 {
				days = append(days, random.IntN(1000), random.IntN(api.MaxDay+1))
			}
			for _, day := range days {
				inA, inB := calendar.Open(a, day), calendar.Open(b, day)
				if calendar.Open(j, day) != (inA && inB) {
					t.Fatalf("%s and %s: Open(%d) is %v of the join, but %v and %v of both", nameA, nameB, day, !(inA && inB), inA, inB)
				}
			}
		}
	}
}

// P5.10: what Check accepts of two calendars, it accepts of their join, unless there are too many weekdays or holidays.
func TestCheckOfJoin(t *testing.T) {
	random := seeded()
	weekdays := func() []int {
		l := random.Perm(7)[:random.IntN(7)]
		slices.Sort(l)
		return l
	}
	for range 1500 {
		a := api.Calendar{Name: "a", Weekend: weekdays(), Holidays: holidays(random, random.IntN(300))}
		b := api.Calendar{Name: "b", Weekend: weekdays(), Holidays: holidays(random, random.IntN(300))}
		if calendar.Check(a) != api.OK || calendar.Check(b) != api.OK {
			t.Fatalf("Check refuses %v or %v", a, b)
		}
		j := calendar.Join(a, b)
		want := api.OK
		switch {
		case len(j.Weekend) == 7:
			want = api.ErrArg
		case len(j.Holidays) > api.MaxHoliday:
			want = api.ErrLimit
		}
		if problem := calendar.Check(j); problem != want {
			t.Fatalf("Check of the join %v is %d, not %d", j, problem, want)
		}
	}
}
