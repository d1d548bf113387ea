package daycount_test

import (
	"slices"
	"testing"

	"corebank/api"
	"corebank/daycount"
)

// P6.4
func TestSum(t *testing.T) {
	all := dates()
	for _, c := range []struct {
		basis    int
		from, to civil
		want     int
	}{
		{api.Ba360, civil{2000, 1, 1}, civil{2000, 1, 1}, 0},
		{api.Ba360, civil{2000, 1, 1}, civil{2000, 1, 2}, 4453},
		{api.Ba360, civil{2000, 1, 1}, civil{2001, 1, 1}, 366 * 4453},
		{api.Ba360, civil{2001, 1, 1}, civil{2002, 1, 1}, 365 * 4453},
		{api.Ba360, civil{2000, 1, 1}, civil{2199, 12, 31}, 73048 * 4453},
		{api.Ba365, civil{2000, 1, 1}, civil{2001, 1, 1}, 366 * 4392},
		{api.Ba365, civil{2001, 1, 1}, civil{2002, 1, 1}, api.Year},
		{api.Ba365, civil{2000, 1, 1}, civil{2199, 12, 31}, 73048 * 4392},
		{api.BaActual, civil{2000, 1, 1}, civil{2001, 1, 1}, api.Year},
		{api.BaActual, civil{2001, 1, 1}, civil{2002, 1, 1}, api.Year},
		{api.BaActual, civil{2000, 12, 31}, civil{2001, 1, 1}, 4380},
		{api.BaActual, civil{2000, 12, 31}, civil{2001, 1, 2}, 4380 + 4392},
		{api.BaActual, civil{2003, 12, 31}, civil{2004, 1, 2}, 4392 + 4380},
		{api.BaActual, civil{2000, 7, 1}, civil{2001, 7, 1}, 184*4380 + 181*4392},
		{api.BaActual, civil{2096, 12, 30}, civil{2104, 1, 3}, 2*4380 + 7*api.Year + 2*4380},
		// There is no year 2200, so the last year lacks its last day.
		{api.BaActual, civil{2000, 1, 1}, civil{2199, 12, 31}, 200*api.Year - 4392},
		{api.BaActual, civil{2199, 12, 30}, civil{2199, 12, 31}, 4392},
		{api.BaThirty, civil{2000, 1, 30}, civil{2000, 1, 31}, 0},
		{api.BaThirty, civil{2000, 1, 31}, civil{2000, 2, 29}, 29 * 4453},
		{api.BaThirty, civil{2000, 2, 29}, civil{2000, 3, 1}, 2 * 4453},
		{api.BaThirty, civil{2000, 1, 1}, civil{2001, 1, 1}, api.Year},
		{api.BaThirty, civil{2000, 1, 1}, civil{2199, 12, 31}, 71999 * 4453},
		{api.BaThirty, civil{2199, 12, 31}, civil{2199, 12, 31}, 0},
	} {
		from, to := on(t, all, c.from.year, c.from.month, c.from.day), on(t, all, c.to.year, c.to.month, c.to.day)
		if got := daycount.Sum(c.basis, from, to); got != c.want {
			t.Errorf("Sum(%d) from %v to %v is %d, not %d", c.basis, c.from, c.to, got, c.want)
		}
	}
}

// P6.4: spans from each day, and all spans between edges.
func TestSumOfAll(t *testing.T) {
	all, random := dates(), seeded()
	for _, basis := range bases {
		before := sums(all, basis)
		same := func(from, to int) {
			t.Helper()
			want := 0
			if from <= to {
				want = before[to] - before[from]
			}
			if got := daycount.Sum(basis, from, to); got != want {
				t.Fatalf("Sum(%d) from %v to %v is %d, not %d", basis, all[from], all[to], got, want)
			}
		}
		for day := range all {
			for _, to := range []int{day - 1, day, day + 1, day + 2, day + 31, day + 365, day + 366, 0, api.MaxDay, random.IntN(len(all))} {
				if to >= 0 && to < len(all) {
					same(day, to)
				}
			}
			same(0, day)
		}
		for _, from := range edges(all) {
			for _, to := range edges(all) {
				same(from, to)
			}
		}
	}
}

// P6.4: the weights that Sum adds are those of Weight.
func TestSumOfWeights(t *testing.T) {
	random := seeded()
	for _, basis := range bases {
		for range 300 {
			from := random.IntN(api.MaxDay + 1)
			to := min(from+random.IntN(2000), api.MaxDay)
			want := 0
			for day := from; day < to; day++ {
				want += daycount.Weight(basis, day)
			}
			if got := daycount.Sum(basis, from, to); got != want {
				t.Fatalf("Sum(%d, %d, %d) is %d, not %d", basis, from, to, got, want)
			}
		}
	}
}

// P6.4
func TestSumOfNothing(t *testing.T) {
	none := func(basis, from, to int) {
		t.Helper()
		if got := daycount.Sum(basis, from, to); got != 0 {
			t.Errorf("Sum(%d, %d, %d) is %d", basis, from, to, got)
		}
	}
	days := []int{0, 1, 30, 59, 366, 36584, api.MaxDay - 1, api.MaxDay}
	for _, basis := range append(slices.Clone(bases), noBases...) {
		for _, bad := range noDays {
			for _, day := range days {
				none(basis, bad, day)
				none(basis, day, bad)
			}
			for _, other := range noDays {
				none(basis, bad, other)
			}
		}
		none(basis, 1, 0)
		none(basis, 31, 30)
		none(basis, 60, 59)
		none(basis, 366, 0)
		none(basis, api.MaxDay, 0)
		none(basis, api.MaxDay, api.MaxDay-1)
		none(basis, api.MaxDay, api.MaxDay)
	}
	for _, basis := range noBases {
		for _, from := range days {
			for _, to := range days {
				none(basis, from, to)
			}
		}
	}
}

// P6.6
func TestSumIsAdditive(t *testing.T) {
	all, random := dates(), seeded()
	additive := func(from, middle, to int) {
		t.Helper()
		for _, basis := range bases {
			whole, first, second := daycount.Sum(basis, from, to), daycount.Sum(basis, from, middle), daycount.Sum(basis, middle, to)
			if whole != first+second {
				t.Fatalf("Sum(%d) from %v to %v is %d, but %d and %d with %v between", basis, all[from], all[to], whole, first, second, all[middle])
			}
		}
		if sum, days := daycount.Sum(api.BaThirty, from, to), daycount.Thirty(from, to); sum != 4453*days {
			t.Fatalf("Sum(BaThirty) from %v to %v is %d, but there are %d days", all[from], all[to], sum, days)
		}
	}
	for range 100000 {
		l := []int{random.IntN(len(all)), random.IntN(len(all)), random.IntN(len(all))}
		slices.Sort(l)
		additive(l[0], l[1], l[2])
	}
	for _, middle := range edges(all) {
		additive(0, middle, api.MaxDay)
		additive(middle, middle, middle)
		additive(max(middle-1, 0), middle, min(middle+1, api.MaxDay))
		additive(0, 0, middle)
		additive(middle, api.MaxDay, api.MaxDay)
	}
}

// P6.7
func TestYears(t *testing.T) {
	all := dates()
	// A day and the next one with the same date are a year apart, unless it is the 29th of February.
	last := map[civil]int{}
	for day, c := range all {
		date := civil{0, c.month, c.day}
		before, found := last[date]
		last[date] = day
		if !found || c.month == 2 && c.day == 29 {
			continue
		}
		if got := daycount.Sum(api.BaThirty, before, day); got != api.Year {
			t.Fatalf("Sum(BaThirty) from %v to %v is %d", all[before], c, got)
		}
		if c.month == 1 && c.day == 1 {
			if got := daycount.Sum(api.BaActual, before, day); got != api.Year {
				t.Fatalf("Sum(BaActual) from %v to %v is %d", all[before], c, got)
			}
		}
	}
}
