package eval_test

import (
	"fmt"
	"math"
	"slices"
	"testing"

	"corebank/api"
	"corebank/eval"
)

// fits requires a result of Valid.
func fits(t *testing.T, vars []api.Var, env []api.Value, want bool) {
	t.Helper()
	if found := eval.Valid(vars, env); found != want || fit(vars, env) != want {
		t.Errorf("Valid(%s, %s) is %t", brief(vars), brief(env), found)
	}
}

// P13.4: one value of each type, at the limits and beyond.
func TestValidLimits(t *testing.T) {
	for kind, l := range map[string]struct{ values, others []int }{
		"number": {[]int{0, 1, -1, math.MaxInt, math.MinInt}, nil},
		"amount": {[]int{0, 1, -1, 1000000000000, -1000000000000}, []int{1000000000001, -1000000000001, math.MaxInt, math.MinInt}},
		"rate":   {[]int{0, 1, -1, 1000000, 1000001, -1000001, 1000000000, -1000000000}, []int{1000000001, -1000000001, 1000000000000, math.MaxInt, math.MinInt, 1 << 32}},
		"day":    {[]int{0, 1, 73047, 73048}, []int{-1, 73049, math.MaxInt, math.MinInt, 1 << 32}},
		"bool":   {[]int{0, 1}, []int{2, -1, math.MaxInt, math.MinInt, 1 << 32, 1<<32 + 1, 256}},
	} {
		for _, n := range l.values {
			fits(t, declare(kind+" x"), values(fmt.Sprint(kind, " ", n)), true)
		}
		for _, n := range l.others {
			fits(t, declare(kind+" x"), values(fmt.Sprint(kind, " ", n)), false)
		}
	}
}

// P13.4: types, with numbers that each of them has, and types that are none.
func TestValidTypes(t *testing.T) {
	none := []int{0, -1, 6, 7, 256, 257, 1<<32 + 1, math.MaxInt, math.MinInt}
	for _, first := range append(slices.Clone(kinds), none...) {
		for _, second := range append(slices.Clone(kinds), none...) {
			want := first == second && slices.Contains(kinds, first)
			for n := range 2 {
				fits(t, []api.Var{{Name: "x", Type: first}}, []api.Value{{Type: second, N: n}}, want)
			}
		}
	}
}

// P13.4: lists of different lengths.
func TestValidLengths(t *testing.T) {
	for length := range 12 {
		for other := range 12 {
			vars, env := slices.Repeat(declare("number x"), length), slices.Repeat(values("number 3"), other)
			fits(t, vars, env, length == other)
		}
	}
	fits(t, nil, nil, true)
	fits(t, []api.Var{}, nil, true)
	fits(t, nil, []api.Value{}, true)
	fits(t, nil, []api.Value{{}}, false)
	fits(t, make([]api.Var, 1), nil, false)
	fits(t, make([]api.Var, 1), make([]api.Value, 1), false)
	fits(t, slices.Repeat(common(), 1<<14), slices.Repeat(with(""), 1<<14), true)
	fits(t, slices.Repeat(common(), 1<<14), append(slices.Repeat(with(""), 1<<14)[1:], value("bool 0")), false)
}

// P13.4: one value that does not fit among others.
func TestValidAmong(t *testing.T) {
	const some = "n 5, count -5, a 7, balance -7, r 9, base -9, d 3, first 4, b 1"
	fits(t, common(), with(some), true)
	for i := range common() {
		for _, other := range values("number 0, amount 0, rate 0, day 0, bool 0, amount 1000000000001, rate -1000000001, day -1, day 73049, bool 2, bool -1") {
			env := with(some)
			env[i] = other
			fits(t, common(), env, isValue(other) && other.Type == common()[i].Type)
		}
		env := with(some)
		env[i].Type = 0
		fits(t, common(), env, false)
		vars := common()
		vars[i].Type = 6
		fits(t, vars, with(some), false)
		env[i].Type = 6
		fits(t, vars, env, false)
	}
	env := with(some)
	slices.Reverse(env)
	fits(t, common(), env, false)
}

// P13.4: names do not matter, not even those that typing.Vars refuses.
func TestValidNames(t *testing.T) {
	for _, name := range []string{"", "x", "X", "if", "a b", "abcdefghijklmnopqrstuvw", "\x00"} {
		fits(t, []api.Var{{Name: name, Type: api.TyDay}}, values("day 5"), true)
		fits(t, []api.Var{{Name: name, Type: api.TyDay}, {Name: name, Type: api.TyBool}}, values("day 5, bool 1"), true)
		fits(t, []api.Var{{Name: name, Type: api.TyDay}, {Name: name, Type: api.TyDay}}, values("day 5, bool 1"), false)
	}
}
