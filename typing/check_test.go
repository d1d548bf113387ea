package typing_test

import (
	"math"
	"testing"

	"corebank/api"
	"corebank/typing"
)

// checks requires a result of Check.
func checks(t *testing.T, e api.Expr, vars []api.Var, wanted int, want api.Errno) {
	t.Helper()
	if problem := typing.Check(e, vars, wanted); problem != want {
		t.Errorf("Check(%s, %v, %d) is %d; want %d", show(e), vars, wanted, problem, want)
	}
}

// P11.3
func TestCheck(t *testing.T) {
	for s, want := range map[string]int{
		"1": api.TyNumber, "n": api.TyNumber, "d - first": api.TyNumber, "a / balance": api.TyNumber, "$ 1": api.TyAmount, "a * r": api.TyAmount, "1%": api.TyRate, "r * n": api.TyRate, "d": api.TyDay, "d + n": api.TyDay, "b": api.TyBool, "a < balance": api.TyBool, "if b then d else first": api.TyDay,
	} {
		for _, kind := range kinds {
			problem := api.ErrType
			if kind == want {
				problem = api.OK
			}
			checks(t, read(s), common(), kind, problem)
		}
	}
}

// P11.3: a want that is not a type.
func TestCheckWant(t *testing.T) {
	vars := append(common(), api.Var{Name: "zero"}, api.Var{Name: "six", Type: 6})
	for _, wanted := range []int{0, -1, -2, 6, 7, 256 + 1, 1<<32 + 1, math.MaxInt, math.MinInt, math.MinInt + 1} {
		for _, s := range []string{"1", "$ 1", "1%", "d", "b", "a * r", "zero", "six", "n + a", "not six"} {
			checks(t, read(s), vars, wanted, api.ErrType)
		}
		// The error of the expression comes first.
		checks(t, read("x + (n + a)"), vars, wanted, api.ErrName)
		checks(t, name("if"), vars, wanted, api.ErrName)
		checks(t, api.Expr{}, vars, wanted, api.ErrArg)
		checks(t, api.Expr{}, nil, wanted, api.ErrArg)
	}
}

// P11.3: the error of Of, whatever type is wanted.
func TestCheckErrors(t *testing.T) {
	deep := num(1)
	for range 8 {
		deep = node(api.OpNeg, deep)
	}
	for wanted := -1; wanted <= 6; wanted++ {
		checks(t, deep, common(), wanted, api.ErrLimit)
		checks(t, api.Expr{}, common(), wanted, api.ErrArg)
		checks(t, node(api.OpAdd, num(1)), common(), wanted, api.ErrArg)
		checks(t, name("else"), common(), wanted, api.ErrName)
		checks(t, name("x"), common(), wanted, api.ErrName)
		checks(t, read("(x + $ 1) + 1"), common(), wanted, api.ErrName)
		checks(t, read("(1 + $ 1) + x"), common(), wanted, api.ErrType)
		checks(t, read("if b then 1 else $ 1"), common(), wanted, api.ErrType)
	}
}
