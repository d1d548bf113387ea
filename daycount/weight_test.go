package daycount_test

import (
	"slices"
	"testing"

	"corebank/api"
	"corebank/daycount"
)

// P6.1
func TestValid(t *testing.T) {
	for _, basis := range bases {
		if !daycount.Valid(basis) {
			t.Errorf("Valid(%d) is false", basis)
		}
	}
	for _, basis := range noBases {
		if daycount.Valid(basis) {
			t.Errorf("Valid(%d) is true", basis)
		}
	}
	for basis := -1000; basis <= 1000; basis++ {
		if daycount.Valid(basis) != slices.Contains(bases, basis) {
			t.Errorf("Valid(%d) is %v", basis, daycount.Valid(basis))
		}
	}
}

// P6.2
func TestThirty(t *testing.T) {
	all := dates()
	for _, c := range []struct {
		from, to civil
		want     int
	}{
		{civil{2000, 1, 31}, civil{2000, 2, 29}, 29},
		{civil{2000, 2, 29}, civil{2000, 3, 1}, 2},
		{civil{2000, 1, 30}, civil{2000, 1, 31}, 0},
		{civil{2000, 1, 31}, civil{2000, 1, 30}, 0},
		{civil{2000, 1, 31}, civil{2000, 2, 1}, 1},
		{civil{2000, 2, 1}, civil{2000, 1, 31}, -1},
		{civil{2000, 1, 1}, civil{2000, 1, 1}, 0},
		{civil{2000, 1, 1}, civil{2000, 1, 2}, 1},
		{civil{2000, 1, 29}, civil{2000, 1, 30}, 1},
		{civil{2000, 2, 28}, civil{2000, 2, 29}, 1},
		{civil{2001, 2, 28}, civil{2001, 3, 1}, 3},
		{civil{2001, 2, 28}, civil{2001, 3, 31}, 32},
		{civil{2001, 1, 31}, civil{2001, 2, 28}, 28},
		{civil{2100, 2, 28}, civil{2100, 3, 1}, 3},
		{civil{2104, 2, 28}, civil{2104, 3, 1}, 3},
		{civil{2000, 4, 30}, civil{2000, 5, 1}, 1},
		{civil{2000, 4, 30}, civil{2000, 5, 31}, 30},
		{civil{2000, 3, 31}, civil{2000, 4, 30}, 30},
		{civil{2000, 1, 31}, civil{2000, 3, 31}, 60},
		{civil{2000, 12, 31}, civil{2001, 1, 1}, 1},
		{civil{2000, 12, 30}, civil{2001, 1, 1}, 1},
		{civil{2001, 1, 1}, civil{2000, 12, 31}, -1},
		{civil{2000, 2, 29}, civil{2001, 2, 28}, 359},
		{civil{2001, 2, 28}, civil{2000, 2, 29}, -359},
		{civil{2000, 1, 1}, civil{2001, 1, 1}, 360},
		{civil{2000, 1, 1}, civil{2199, 12, 31}, 71999},
		{civil{2199, 12, 31}, civil{2000, 1, 1}, -71999},
		{civil{2199, 12, 31}, civil{2199, 12, 31}, 0},
		{civil{2199, 12, 30}, civil{2199, 12, 31}, 0},
		{civil{2199, 12, 29}, civil{2199, 12, 31}, 1},
	} {
		from, to := on(t, all, c.from.year, c.from.month, c.from.day), on(t, all, c.to.year, c.to.month, c.to.day)
		if got := daycount.Thirty(from, to); got != c.want {
			t.Errorf("Thirty from %v to %v is %d, not %d", c.from, c.to, got, c.want)
		}
	}
}

// P6.2: each day with its neighbours, with edges and with other days, in both orders.
func TestThirtyOfAll(t *testing.T) {
	all, random := dates(), seeded()
	same := func(from, to int) {
		t.Helper()
		if got, want := daycount.Thirty(from, to), thirty(all[from], all[to]); got != want {
			t.Fatalf("Thirty from %v to %v is %d, not %d", all[from], all[to], got, want)
		}
	}
	for day := range all {
		for _, other := range []int{day, day + 1, day + 2, day + 30, day + 365, day + 366, 0, 59, api.MaxDay, random.IntN(len(all))} {
			if other < len(all) {
				same(day, other)
				same(other, day)
			}
		}
	}
	for _, from := range edges(all) {
		for _, to := range edges(all) {
			same(from, to)
		}
	}
}

// P6.2
func TestThirtyOfNoDays(t *testing.T) {
	none := func(from, to int) {
		t.Helper()
		if got := daycount.Thirty(from, to); got != 0 {
			t.Errorf("Thirty(%d, %d) is %d", from, to, got)
		}
	}
	for _, bad := range noDays {
		for _, day := range []int{0, 1, 29, 30, 59, 60, 366, 36583, api.MaxDay - 1, api.MaxDay} {
			none(bad, day)
			none(day, bad)
		}
		for _, other := range noDays {
			none(bad, other)
		}
	}
}

// P6.3
func TestWeight(t *testing.T) {
	all := dates()
	for _, c := range []struct {
		basis, year, month, day, want int
	}{
		{api.Ba360, 2000, 1, 1, 4453},
		{api.Ba360, 2001, 12, 31, 4453},
		{api.Ba360, 2199, 12, 31, 4453},
		{api.Ba365, 2000, 1, 1, 4392},
		{api.Ba365, 2000, 2, 29, 4392},
		{api.Ba365, 2199, 12, 31, 4392},
		{api.BaActual, 2000, 1, 1, 4380},
		{api.BaActual, 2000, 12, 31, 4380},
		{api.BaActual, 2001, 1, 1, 4392},
		{api.BaActual, 2003, 12, 31, 4392},
		{api.BaActual, 2004, 1, 1, 4380},
		{api.BaActual, 2100, 1, 1, 4392},
		{api.BaActual, 2100, 12, 31, 4392},
		{api.BaActual, 2199, 12, 31, 4392},
		{api.BaThirty, 2000, 1, 1, 4453},
		{api.BaThirty, 2000, 1, 29, 4453},
		{api.BaThirty, 2000, 1, 30, 0},
		{api.BaThirty, 2000, 1, 31, 4453},
		{api.BaThirty, 2000, 2, 28, 4453},
		{api.BaThirty, 2000, 2, 29, 2 * 4453},
		{api.BaThirty, 2001, 2, 27, 4453},
		{api.BaThirty, 2001, 2, 28, 3 * 4453},
		{api.BaThirty, 2100, 2, 28, 3 * 4453},
		{api.BaThirty, 2104, 2, 29, 2 * 4453},
		{api.BaThirty, 2000, 4, 30, 4453},
		{api.BaThirty, 2000, 12, 30, 0},
		{api.BaThirty, 2000, 12, 31, 4453},
		{api.BaThirty, 2199, 12, 29, 4453},
		{api.BaThirty, 2199, 12, 30, 0},
		{api.BaThirty, 2199, 12, 31, 0},
	} {
		day := on(t, all, c.year, c.month, c.day)
		if got := daycount.Weight(c.basis, day); got != c.want {
			t.Errorf("Weight(%d, %v) is %d, not %d", c.basis, all[day], got, c.want)
		}
	}
}

// P6.3: each day, with each basis.
func TestWeightOfAll(t *testing.T) {
	all := dates()
	for _, basis := range bases {
		for day := range all {
			if got, want := daycount.Weight(basis, day), weight(all, basis, day); got != want {
				t.Fatalf("Weight(%d, %v) is %d, not %d", basis, all[day], got, want)
			}
		}
	}
}

// P6.3
func TestWeightOfNothing(t *testing.T) {
	none := func(basis, day int) {
		t.Helper()
		if got := daycount.Weight(basis, day); got != 0 {
			t.Errorf("Weight(%d, %d) is %d", basis, day, got)
		}
	}
	for _, day := range noDays {
		for _, basis := range append(slices.Clone(bases), noBases...) {
			none(basis, day)
		}
	}
	for _, basis := range noBases {
		for _, day := range []int{0, 30, 59, 60, 365, 366, 36584, api.MaxDay - 1, api.MaxDay} {
			none(basis, day)
		}
	}
}
