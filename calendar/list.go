package calendar

import (
	"slices"

	"corebank/api"
)

// Check examines a calendar.
func Check(c api.Calendar) api.Errno {
	switch {
	case !validName(c.Name):
		return api.ErrName
	case len(c.Weekend) >= weekDays || !within(c.Weekend, weekDays-1) || !ascending(c.Weekend):
		return api.ErrArg
	case len(c.Holidays) > api.MaxHoliday:
		return api.ErrLimit
	case !within(c.Holidays, api.MaxDay):
		return api.ErrArg
	case !ascending(c.Holidays):
		return api.ErrOrder
	}
	return api.OK
}

// Find returns the calendar with a name.
func Find(l []api.Calendar, name string) (api.Calendar, bool) {
	for _, c := range l {
		if c.Name == name {
			// The result must not share its lists with l.
			return api.Calendar{Name: c.Name, Weekend: slices.Clone(c.Weekend), Holidays: slices.Clone(c.Holidays)}, true
		}
	}
	return api.Calendar{}, false
}

// Join returns the calendar that is closed when a or b is.
func Join(a, b api.Calendar) api.Calendar {
	return api.Calendar{Name: a.Name, Weekend: union(a.Weekend, b.Weekend), Holidays: union(a.Holidays, b.Holidays)}
}

// union returns the numbers that occur in a or in b, ascending, each once.
func union(a, b []int) []int {
	all := slices.Concat(a, b)
	slices.Sort(all)
	return slices.Compact(all)
}

// within reports whether all numbers are from 0 to greatest.
func within(l []int, greatest int) bool {
	for _, n := range l {
		if n < 0 || n > greatest {
			return false
		}
	}
	return true
}

// ascending reports whether each number is greater than the one before it.
func ascending(l []int) bool {
	for at := 1; at < len(l); at++ {
		if l[at] <= l[at-1] {
			return false
		}
	}
	return true
}

// validName reports whether s is a name.
func validName(s string) bool {
	if len(s) < 1 || len(s) > api.MaxName || !letter(s[0]) {
		return false
	}
	for at := range len(s) {
		if !letter(s[at]) && (s[at] < '0' || s[at] > '9') && s[at] != '_' {
			return false
		}
	}
	return true
}

// letter reports whether a name can begin with c.
func letter(c byte) bool { return c >= 'a' && c <= 'z' }
