package typing_test

import (
	"fmt"
	"math"
	"slices"
	"strings"
	"testing"

	"corebank/api"
	"corebank/typing"
)

// P11.2: expressions of one node.
func TestOfLeaves(t *testing.T) {
	for _, vars := range [][]api.Var{nil, {}, common()} {
		for _, n := range []int{0, 1, api.MaxAmount + 1, math.MaxInt} {
			requires(t, num(n), vars, api.TyNumber, api.OK)
		}
		for _, n := range []int{0, 5, api.MaxAmount} {
			requires(t, cash(n), vars, api.TyAmount, api.OK)
		}
		for _, n := range []int{0, 15000, api.MaxPpm} {
			requires(t, rate(n), vars, api.TyRate, api.OK)
		}
	}
	for _, v := range common() {
		requires(t, name(v.Name), common(), v.Type, api.OK)
		requires(t, name(v.Name), []api.Var{v}, v.Type, api.OK)
		requires(t, name(v.Name), nil, 0, api.ErrName)
		requires(t, name(v.Name+"x"), common(), 0, api.ErrName)
	}
}

// P11.2: each operator with each combination of the types of its operands, as variables and as numbers.
func TestOfOperators(t *testing.T) {
	taken := map[string]int{}
	for _, one := range entries() {
		taken[fmt.Sprint(one.row)] = one.result
	}
	for _, op := range composed {
		for _, operands := range lists(kinds, arity(op)) {
			want, problem := taken[fmt.Sprint(row{op, operands})], api.OK
			if want == 0 {
				problem = api.ErrType
			}
			for choice := range 4 {
				e := api.Expr{Op: op}
				for _, kind := range operands {
					e.Args = append(e.Args, leaves(kind)[choice%len(leaves(kind))])
				}
				requires(t, e, common(), want, problem)
			}
		}
	}
}

// P11.2: the examples.
func TestOfExamples(t *testing.T) {
	for _, c := range []struct {
		s, vars string
		want    int
		problem api.Errno
	}{
		{"a * r", "amount a, rate r", api.TyAmount, api.OK}, {"r * a", "amount a, rate r", api.TyAmount, api.OK}, {"a * a", "amount a", 0, api.ErrType},
		{"a - a", "day a", api.TyNumber, api.OK}, {"a + a", "day a", 0, api.ErrType},
		{"if a then 1 else $ 1", "bool a", 0, api.ErrType}, {"if a then 1 else $ 1", "number a", 0, api.ErrType},
		{"(x + $ 1) + 1", "", 0, api.ErrName}, {"(1 + $ 1) + x", "", 0, api.ErrType},
	} {
		requires(t, read(c.s), declare(c.vars), c.want, c.problem)
	}
}

// P11.2: expressions of several levels.
func TestOfLevels(t *testing.T) {
	for s, want := range map[string]string{
		"n + count * 2 - n / 3": "number", "- (a - balance) / 2": "amount", "a * r + balance * 1.5%": "amount", "a / balance * 3": "number", "(a - $ 100) / $ 7 + n": "number",
		"2 * r - base / 4": "rate", "- r * 2": "rate", "d + 3 - n": "day", "d - first": "number", "(d - first) * $ 2": "amount", "d + (first - d)": "day", "d - (d - first)": "day", "d - 1 - first": "number",
		"min(a, max(balance, $ 5)) * (r + 1%)": "amount", "max(d, first + 1)": "day", "min(r, 2%)": "rate", "max(n, d - first)": "number",
		"a < balance and not b or d <= first": "bool", "(a < balance) == (n <= 3)": "bool", "b != active": "bool", "not b == active": "bool", "d - first == n": "bool", "d != first + 3": "bool", "n / 2 * r < base": "bool",
		"if b and active then a else balance * r": "amount", "if n < 3 then if b then 1 else 2 else n": "number", "if b then active else not b": "bool", "if (if b then active else a < balance) then d else first - 1": "day", "if b then r else min(base, 3%)": "rate", "(if b then a else $ 1) / (if active then 2 else n)": "amount",
		"- - - - - - - n": "number", "not not not not not not not b": "bool", "a + a + a + a + a + a + a + a": "amount", "d + 1 + 1 + 1 + 1 + 1 + 1 + 1": "day",
	} {
		requires(t, read(s), common(), types[want], api.OK)
	}
	for _, s := range []string{
		"n + a", "a + n * 2", "a * balance * r", "a * (balance / 2)", "r * base", "a / r", "n / a", "a / (balance * r + n)", "d * 2", "2 * d", "n + d", "n - d", "d + first", "d + r", "d - a", "- d", "- b", "not n", "a and b", "b or n", "b and (a or b)",
		"b < active", "b <= active", "a < n", "a == n", "r != n", "d == n", "b == n", "min(b, active)", "max(b, active)", "min(a, n)", "max(d, 1)", "if n then 1 else 2", "if a then a else a", "if b then a else r", "if b then n else a", "if b then b else n", "b + active", "b * 2", "b / 2", "b - active",
		"(a < balance) < (n <= 3)", "min(a < balance, b)", "d - first + first", "d + (d + 1)", "(a / balance) * balance + 1", "if not (a < 1) then 1 else 2", "- (a == balance)", "not (if b then 1 else 2)",
	} {
		requires(t, read(s), common(), 0, api.ErrType)
	}
}

// P11.2: a variable that occurs more than once in vars, none, and many.
func TestOfVariables(t *testing.T) {
	for _, first := range kinds {
		for _, second := range []int{-1, 0, 1, 2, 3, 4, 5, 6} {
			twice := []api.Var{{Name: "x", Type: first}, {Name: "x", Type: second}}
			requires(t, name("x"), twice, first, api.OK)
			requires(t, name("x"), append([]api.Var{{Name: "y", Type: second}}, twice...), first, api.OK)
			requires(t, read("if x == x then x else x"), append(twice, twice...), first, api.OK)
			requires(t, name("x"), []api.Var{{Name: "x", Type: first}, {Name: "y"}, {Name: "x", Type: second}}, first, api.OK)
		}
		for _, other := range []int{0, -1, 6, 7, -first, 1<<32 + first, 256 + first, math.MinInt, math.MaxInt} {
			requires(t, name("x"), []api.Var{{Name: "x", Type: other}}, 0, api.ErrType)
			requires(t, name("x"), []api.Var{{Name: "x", Type: other}, {Name: "x", Type: first}}, 0, api.ErrType)
			// It does not matter what another variable is.
			requires(t, name("x"), []api.Var{{Name: "y", Type: other}, {Name: "x", Type: first}}, first, api.OK)
			requires(t, num(1), []api.Var{{Name: "y", Type: other}}, api.TyNumber, api.OK)
		}
	}
	for _, vars := range [][]api.Var{nil, {}, {{}}, {{Type: api.TyNumber}}, {{Name: "X", Type: api.TyNumber}}, {{Name: "x ", Type: api.TyNumber}}, {{Name: "xx", Type: api.TyNumber}}, {{Name: "min", Type: api.TyNumber}}} {
		requires(t, name("x"), vars, 0, api.ErrName)
		requires(t, read("x + 1"), vars, 0, api.ErrName)
		requires(t, read("1 + 2"), vars, api.TyNumber, api.OK)
	}
	var many []api.Var
	for i := range 5000 {
		many = append(many, api.Var{Name: "v" + strings.Repeat("0", i%15), Type: i})
	}
	many = append(many, declare("day x, bool y")...)
	requires(t, read("if y then x + 1 else x"), many, api.TyDay, api.OK)
	requires(t, read("v0 * v00"), many, api.TyAmount, api.OK)
	requires(t, name("v"), many, 0, api.ErrType)
	requires(t, name("v00000"), many, api.TyBool, api.OK)
	requires(t, name("v000000"), many, 0, api.ErrType)
}

// P11.2: the first error in the order of evaluation.
func TestOfOrder(t *testing.T) {
	vars := append(common(), api.Var{Name: "no_type"}, api.Var{Name: "six", Type: 6})
	for s, want := range map[string]api.Errno{
		"x + n": api.ErrName, "n + x": api.ErrName, "x + x": api.ErrName, "x + (n + a)": api.ErrName, "(n + a) + x": api.ErrType, "x and n": api.ErrName, "n and x": api.ErrName, "a * (a * x)": api.ErrName, "(a * a) * x": api.ErrType,
		"no_type + x": api.ErrType, "x + no_type": api.ErrName, "six + x": api.ErrType, "x + six": api.ErrName, "no_type + n": api.ErrType, "n + no_type": api.ErrType, "(n + six) + x": api.ErrType, "(n + x) + six": api.ErrName,
		"min(x, n + a)": api.ErrName, "min(n + a, x)": api.ErrType, "max(x, six)": api.ErrName, "max(six, x)": api.ErrType, "min(b, x)": api.ErrName, "b < x": api.ErrName, "x < b": api.ErrName, "(b < b) and x": api.ErrType, "(b < x) and n": api.ErrName,
		"not x": api.ErrName, "- x": api.ErrName, "not six": api.ErrType, "- (n + a + x)": api.ErrType, "- (n + (a + x))": api.ErrName, "not (x and n)": api.ErrName, "(n + a == n) == x": api.ErrType,
		"n + a + (n + x)": api.ErrType, "n + (a + x)": api.ErrName, "n * (d * x) - (a * a)": api.ErrName, "(d * d) - x": api.ErrType, "d + d - x": api.ErrType, "d + (d - x)": api.ErrName,
	} {
		requires(t, read(s), vars, 0, want)
	}
}

// P11.2: the condition of an if that is no bool, with errors in the other operands.
func TestOfConditions(t *testing.T) {
	vars := append(common(), api.Var{Name: "six", Type: 6})
	for _, condition := range []string{"n", "a", "r", "d", "1", "$ 1", "1%", "d - first", "min(a, balance)"} {
		for operands, want := range map[string]api.Errno{
			"then 1 else 2": api.ErrType, "then b else b": api.ErrType, "then 1 else $ 1": api.ErrType, "then x else 1": api.ErrName, "then 1 else x": api.ErrName, "then x else six": api.ErrName, "then six else x": api.ErrType, "then n + a else x": api.ErrType, "then x else n + a": api.ErrName, "then n else n + a": api.ErrType,
		} {
			requires(t, read("if "+condition+" "+operands), vars, 0, want)
		}
	}
	for s, want := range map[string]api.Errno{
		"if x then 1 else 2": api.ErrName, "if x then six else n + a": api.ErrName, "if six then x else x": api.ErrType, "if n + a then x else x": api.ErrType, "if not n then x else x": api.ErrType, "if b then x else 1": api.ErrName, "if b then 1 else x": api.ErrName, "if b then six else x": api.ErrType, "if b then x else six": api.ErrName, "if b then 1 else six": api.ErrType, "if b then n + a else x": api.ErrType, "if b then n else a": api.ErrType,
	} {
		requires(t, read(s), vars, 0, want)
	}
}

// P11.2: the error of expr.Validate comes first, wherever it is.
func TestOfRefused(t *testing.T) {
	deep, many := name("x"), name("x")
	for range 8 {
		deep = node(api.OpNeg, deep)
	}
	for range 6 {
		many = node(api.OpAdd, many, many)
	}
	for _, c := range []struct {
		e    api.Expr
		want api.Errno
	}{
		{deep, api.ErrLimit}, {many, api.ErrLimit}, {api.Expr{}, api.ErrArg}, {node(api.OpAdd), api.ErrArg}, {node(api.OpAdd, num(1)), api.ErrArg}, {node(api.OpAdd, num(1), num(2), num(3)), api.ErrArg}, {node(api.OpNot), api.ErrArg}, {node(api.OpIf, name("b"), num(1)), api.ErrArg},
		{node(20, num(1), num(2)), api.ErrArg}, {node(-1), api.ErrArg}, {num(-1), api.ErrArg}, {cash(api.MaxAmount + 1), api.ErrArg}, {rate(api.MaxPpm + 1), api.ErrArg}, {api.Expr{Op: api.OpNum, S: "n"}, api.ErrArg}, {api.Expr{Op: api.OpVar, S: "n", N: 1}, api.ErrArg}, {node(api.OpNum, num(1)), api.ErrArg},
		{name(""), api.ErrName}, {name("if"), api.ErrName}, {name("Upper"), api.ErrName}, {name("abcdefghijklmnopq"), api.ErrName}, {name("a b"), api.ErrName},
	} {
		// A variable does not become valid by standing in the list.
		vars := append(common(), api.Var{Name: c.e.S, Type: api.TyNumber})
		requires(t, c.e, vars, 0, c.want)
		requires(t, c.e, nil, 0, c.want)
		if expected, _ := typed(c.e, vars); expected != 0 {
			t.Fatalf("%s is valid", show(c.e))
		}
		for _, other := range []api.Expr{num(1), name("unknown"), read("n + a"), read("unknown + $ 1"), read("not 1")} {
			requires(t, node(api.OpAdd, c.e, other), vars, 0, c.want)
			requires(t, node(api.OpAdd, other, c.e), vars, 0, c.want)
			requires(t, node(api.OpIf, other, c.e, other), vars, 0, c.want)
			requires(t, node(api.OpIf, other, other, c.e), vars, 0, c.want)
		}
	}
}

// P0.1: expressions that are far too large are refused at once.
func TestOfLarge(t *testing.T) {
	deep, wide := name("n"), name("n")
	for range 1 << 16 {
		deep = node(api.OpNeg, deep)
	}
	for range 60 {
		wide = node(api.OpAdd, wide, wide)
	}
	many := node(api.OpAdd, slices.Repeat([]api.Expr{name("n")}, 1<<20)...)
	for _, e := range []api.Expr{deep, wide, many, node(api.OpIf, many, deep, wide)} {
		if found, problem := typing.Of(e, common()); found != 0 || problem != api.ErrLimit {
			t.Errorf("Of is %d, %d", found, problem)
		}
		if problem := typing.Check(e, common(), api.TyNumber); problem != api.ErrLimit {
			t.Errorf("Check is %d", problem)
		}
	}
}
