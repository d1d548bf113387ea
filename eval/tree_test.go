package eval_test

import (
	"fmt"
	"math"
	"slices"
	"strings"
	"testing"

	"corebank/api"
	"corebank/eval"
	"corebank/expr"
)

// P13.2: example 5.
func TestTreeExample(t *testing.T) {
	yields(t, "if b then 1 else 1 / 0", "b 1", "number 1")
	fails(t, "if b then 1 else 1 / 0", "b 0", api.ErrZero)
}

// P13.2: constants and variables.
func TestTreeLeaves(t *testing.T) {
	for s, want := range map[string]string{
		"0": "number 0", "5": "number 5", "9223372036854775807": "number 9223372036854775807", "$ 0": "amount 0", "$ 7": "amount 7", "$ 1000000000000": "amount 1000000000000", "0%": "rate 0", "1.5%": "rate 15000", "100%": "rate 1000000", "0.0001%": "rate 1",
	} {
		yields(t, s, "", want)
	}
	for _, numbers := range []string{"n 5, count 6, a 7, balance 8, r 9, base 10, d 11, first 12, b 1", "n -5, count -6, a -7, balance -8, r -9, base -10, d 0, first 73048, active 1", "n -9223372036854775808, count 9223372036854775807, a -1000000000000, balance 1000000000000, r -1000000000, base 1000000000"} {
		env := with(numbers)
		for i, v := range common() {
			yields(t, v.Name, numbers, fmt.Sprint([]string{"", "number", "amount", "rate", "day", "bool"}[v.Type], " ", env[i].N))
		}
	}
	// No variables.
	for _, env := range [][]api.Value{nil, {}} {
		for _, vars := range [][]api.Var{nil, {}} {
			if v, problem := eval.Tree(read("1 + 2 * 3"), vars, env); v != value("number 7") || problem != api.OK {
				t.Errorf("Tree is %v, %d", v, problem)
			}
			checkTree(t, read("if 1 < 2 then $ 3 else $ 4"), vars, env)
		}
	}
	// The greatest number of variables.
	var vars []api.Var
	var env []api.Value
	for i := range api.MaxList {
		vars = append(vars, api.Var{Name: fmt.Sprint("v", i), Type: 1 + i%5})
		env = append(env, api.Value{Type: 1 + i%5, N: i & 1})
	}
	for _, v := range vars {
		checkTree(t, name(v.Name), vars, env)
		checkTree(t, node(api.OpEq, name(v.Name), name(v.Name)), vars, env)
	}
}

// P13.2: expressions of several levels.
func TestTreeLevels(t *testing.T) {
	const env = "n 7, count -3, a 1050, balance -250, r 15000, base 20000, d 100, first 59, b 1"
	for s, want := range map[string]string{
		"n + count * 2": "number 1", "(n + count) * 2": "number 8", "n - count - 1": "number 9", "n - (count - 1)": "number 11", "- n / 2": "number -3", "-(n / 2)": "number -3", "n / count": "number -2", "n * count / 2": "number -10", "100 / 7 / 2": "number 7", "100 / (7 / 2)": "number 33", "- - n": "number 7",
		"a * r": "amount 16", "r * a": "amount 16", "balance * base": "amount -5", "a * (r + base)": "amount 37", "a / 4": "amount 262", "(a + $ 2) / 4": "amount 263", "balance / 4": "amount -62", "(balance - $ 4) / 4": "amount -64", "a / balance": "number -4", "a / balance * $ 100": "amount -400", "a * 2 + balance": "amount 1850", "- balance * 3": "amount 750",
		"r * 2 - base": "rate 10000", "(r + base) / 2": "rate 17500", "r / 4": "rate 3750", "r / count": "rate -5000", "- r * n": "rate -105000", "1.5% + r": "rate 30000", "min(r, 1%)": "rate 10000",
		"d - first": "number 41", "d + n": "day 107", "d + count": "day 97", "d - n - first": "number 34", "d - (d - first)": "day 59", "d + (first - d)": "day 59", "max(d, first + 50)": "day 109", "min(d, first) + 1": "day 60", "(d - first) * $ 10": "amount 410", "(d - first) / 2": "number 20",
		"a < balance": "bool 0", "a <= $ 1050": "bool 1", "n == 7 and d != first": "bool 1", "n == 7 and d == first": "bool 0", "n != 7 or not b": "bool 0", "b or active": "bool 1", "b and active": "bool 0", "not active": "bool 1", "not b == active": "bool 1", "b != active": "bool 1", "(a < balance) == (n <= 3)": "bool 1", "d - first == 41": "bool 1",
		"min(a, max(balance, $ 5)) * (r + 1%)": "amount 0", "max(a, balance) * 50%": "amount 525", "min(n, count) + max(n, count)": "number 4", "max(n, d - first)": "number 41",
		"if b then a else balance * r": "amount 1050", "if not b then a else balance * base": "amount -5", "if n < 3 then if b then 1 else 2 else n": "number 7", "if b then if active then 1 else 2 else n": "number 2", "if (if b then active else a < balance) then d else first - 1": "day 58", "if b then active else not b": "bool 0", "if active then r else min(base, 3%)": "rate 20000",
		// if as an operand of each operator
		"(if b then 5 else 6) + (if active then 5 else 6)": "number 11", "- (if b then n else count)": "number -7", "not (if b then active else b)": "bool 1", "(if active then a else balance) / (if b then 2 else 0)": "amount -125", "(if b then a else $ 1) / (if b then balance else $ 0)": "number -4", "(if b then 1 else 2) - (if b then 3 else 4) * (if b then 5 else 6)": "number -14",
		"min(if b then 3 else 4, if active then 1 else 5)": "number 3", "max(if b then 3 else 4, if active then 1 else 5)": "number 5", "(if b then active else b) and b": "bool 0", "active or (if b then b else active)": "bool 1", "(if b then d else first) == (if active then first else d)": "bool 1", "(if b then d else first) != d": "bool 0", "a < (if b then $ 1051 else $ 0)": "bool 1", "(if active then $ 0 else a) <= balance": "bool 0",
		// all levels
		"- - - - - - - n": "number -7", "not not not not not not not b": "bool 0", "a + a + a + a + a + a + a + a": "amount 8400", "d + 1 + 1 + 1 + 1 + 1 + 1 + 1": "day 107", "n * (n * (n * (n * (n * (n * (n * n))))))": "number 5764801",
	} {
		yields(t, s, env, want)
	}
}

// P13.2: an if evaluates only the operand that it chooses; and and or evaluate both.
func TestTreeChosen(t *testing.T) {
	for _, c := range []struct {
		s, env, want string
		problem      api.Errno
	}{
		{"if b then 1 / 0 else 2", "", "number 2", 0}, {"if b then 1 / 0 else 2", "b 1", "", api.ErrZero}, {"if b then n else n + 1", "n 9223372036854775807, b 1", "number 9223372036854775807", 0}, {"if b then n else n + 1", "n 9223372036854775807", "", api.ErrOverflow},
		{"if n == 0 then a else a / n", "a 5", "amount 5", 0}, {"if n == 0 then a else a / n", "a 5, n 2", "amount 2", 0}, {"if b then if active then 1 / 0 else 5 else 1 / 0", "b 1", "number 5", 0}, {"if b then if active then 1 / 0 else 5 else 1 / 0", "b 1, active 1", "", api.ErrZero}, {"if (if b then active else 1 / 0 == 1) then 3 else 4", "b 1", "number 4", 0}, {"if 1 / 0 == 1 then 3 else 4", "", "", api.ErrZero},
		{"1 + (if b then 1 / 0 else 2) * 3", "", "number 7", 0}, {"(if b then 1 / 0 else 2) / 0", "", "", api.ErrZero}, {"min(if b then 1 / 0 else 2, if active then 1 else 1 / 0)", "active 1", "number 1", 0}, {"if b then d + 1 else d", "d 73048", "day 73048", 0}, {"if b then d + 1 else d", "d 73048, b 1", "", api.ErrOverflow},
		{"b and 1 / 0 == 1", "", "", api.ErrZero}, {"b and 1 / 0 == 1", "b 1", "", api.ErrZero}, {"b or 1 / 0 == 1", "b 1", "", api.ErrZero}, {"b or 1 / 0 == 1", "", "", api.ErrZero}, {"1 / 0 == 1 and b", "", "", api.ErrZero}, {"not b or a / $ 0 < n", "", "", api.ErrZero}, {"b and (active and 1 / 0 == 1)", "", "", api.ErrZero}, {"b or (active or d + 1 == d)", "b 1, active 1, d 73048", "", api.ErrOverflow},
		{"(if b then active and 1 / 0 == 1 else active) or active", "", "bool 0", 0}, {"min(1, 1 / 0)", "", "", api.ErrZero}, {"0 * (1 / 0)", "", "", api.ErrZero},
	} {
		if c.problem != api.OK {
			fails(t, c.s, c.env, c.problem)
		} else {
			yields(t, c.s, c.env, c.want)
		}
	}
}

// P13.2: the first error in the order of evaluation.
func TestTreeOrder(t *testing.T) {
	const env = "n 9223372036854775807, count 2, a 1000000000000, balance 1, r 1000000000, d 73048, b 1"
	const zero, over = "1 / 0", "(n + 1)"
	for _, op := range []string{"+", "-", "*", "/", "==", "!=", "<", "<="} {
		fails(t, fmt.Sprint("(", zero, ") ", op, " ", over), env, api.ErrZero)
		fails(t, fmt.Sprint(over, " ", op, " (", zero, ")"), env, api.ErrOverflow)
		fails(t, fmt.Sprint("1 ", op, " (", zero, ")"), env, api.ErrZero)
		fails(t, fmt.Sprint("1 ", op, " ", over), env, api.ErrOverflow)
	}
	for _, op := range []string{"min", "max"} {
		fails(t, op+"(1 / 0, n + 1)", env, api.ErrZero)
		fails(t, op+"(n + 1, 1 / 0)", env, api.ErrOverflow)
	}
	for s, want := range map[string]api.Errno{
		"1 / 0 == 1 and n + 1 == 1": api.ErrZero, "n + 1 == 1 and 1 / 0 == 1": api.ErrOverflow, "1 / 0 == 1 or n + 1 == 1": api.ErrZero, "n + 1 == 1 or 1 / 0 == 1": api.ErrOverflow,
		"if 1 / 0 == 1 then n + 1 else n + 1": api.ErrZero, "if n + 1 == 1 then 1 / 0 else 1 / 0": api.ErrOverflow, "if b then 1 / 0 else n + 1": api.ErrZero, "if not b then 1 / 0 else n + 1": api.ErrOverflow,
		// the operator comes after its operands
		"(n + 1) / 0": api.ErrOverflow, "n / 0 + (n + 1)": api.ErrZero, "n + n / 0": api.ErrZero, "n + (n + 1 / 0)": api.ErrZero, "n + n + 1 / 0": api.ErrOverflow, "n * 2 / 0": api.ErrOverflow, "n * (2 / 0)": api.ErrZero, "- (n + 1) / 0": api.ErrOverflow, "a * 2 / 0": api.ErrOverflow, "a / 0 * 2": api.ErrZero, "a * r / $ 0": api.ErrOverflow, "a / (a * 0)": api.ErrZero, "a * r / (a - a)": api.ErrOverflow, "(d + 1) - d / 1": api.ErrType,
		"d + 1 - first / 0": api.ErrType, "d + (1 / 0)": api.ErrZero, "d + 1 + 1 / 0": api.ErrOverflow, "- (1 / 0) + (n + 1)": api.ErrZero, "not (1 / 0 == 1) and n + 1 == 1": api.ErrZero, "min(a / 0, a * 2) + a * 2": api.ErrZero,
		// an error of a part whose value would not matter
		"(n + 1) * 0": api.ErrOverflow, "0 / (1 / 0)": api.ErrZero, "n + 1 - 1": api.ErrOverflow, "a + balance - balance": api.ErrOverflow, "r * 2 / 2": api.ErrOverflow,
	} {
		fails(t, s, env, want)
	}
	yields(t, "n + (1 - 1)", env, "number 9223372036854775807")
	yields(t, "n - 1 + 1", env, "number 9223372036854775807")
	yields(t, "a - balance + balance", env, "amount 1000000000000")
	yields(t, "a * (r / 1000)", env, "amount 1000000000000")
}

// P13.2: the errors of typing.Vars come first, then those of typing.Of, then those of values that do not fit, and then those of Apply.
func TestTreeErrors(t *testing.T) {
	fitting := map[bool]string{true: "fitting", false: "not fitting"}
	one := []api.Var{{Name: "x", Type: api.TyNumber}}
	many := make([]api.Var, api.MaxList+1)
	for i := range many {
		many[i] = api.Var{Name: fmt.Sprint("v", i), Type: api.TyNumber}
	}
	deep, wide := name("x"), name("x")
	for range api.MaxDepth {
		deep = node(api.OpNeg, deep)
	}
	for range 6 {
		wide = node(api.OpAdd, wide, wide)
	}
	problem := func(e api.Expr, vars []api.Var, want api.Errno) {
		t.Helper()
		var fits []api.Value
		for _, v := range vars {
			fits = append(fits, api.Value{Type: v.Type})
		}
		other := append(slices.Clone(fits), api.Value{Type: api.TyBool, N: 2})
		for fit, env := range map[bool][]api.Value{true: fits, false: other} {
			expected := want
			if want == api.ErrZero && !fit {
				expected = api.ErrArg
			}
			if v, found := eval.Tree(e, vars, env); v != (api.Value{}) || found != expected {
				t.Errorf("Tree(%s, %s) with %s values is %v, %d; want %d", show(e), brief(vars), fitting[fit], v, found, expected)
			}
			checkTree(t, e, vars, env)
		}
	}
	refusedVars := []struct {
		vars []api.Var
		want api.Errno
	}{
		{many, api.ErrLimit}, {[]api.Var{{Name: "X", Type: 1}}, api.ErrName}, {[]api.Var{{Name: "if", Type: 1}}, api.ErrName}, {[]api.Var{{Type: 1}}, api.ErrName}, {[]api.Var{{Name: "x", Type: 1}, {Name: "x", Type: 2}}, api.ErrDuplicate}, {[]api.Var{{Name: "x"}}, api.ErrType}, {[]api.Var{{Name: "x", Type: 6}}, api.ErrType}, {[]api.Var{{Name: "x", Type: 1}, {Name: "y", Type: -1}}, api.ErrType},
	}
	refusedTrees := []struct {
		e    api.Expr
		want api.Errno
	}{
		{deep, api.ErrLimit}, {wide, api.ErrLimit}, {api.Expr{}, api.ErrArg}, {node(api.OpAdd, num(1)), api.ErrArg}, {node(20), api.ErrArg}, {num(-1), api.ErrArg}, {cash(api.MaxAmount + 1), api.ErrArg}, {rate(api.MaxPpm + 1), api.ErrArg}, {name("then"), api.ErrName}, {name(""), api.ErrName}, {name("unknown"), api.ErrName}, {node(api.OpAdd, num(1), cash(1)), api.ErrType}, {read("1 / 0 + unknown"), api.ErrName}, {read("1 / 0 + $ 1"), api.ErrType}, {read("if 1 < 2 then 1 else $ 1"), api.ErrType}, {read("if 1 < 2 then 1 else unknown"), api.ErrName}, {read("not 5"), api.ErrType}, {read("if 5 then 1 else 2"), api.ErrType},
	}
	for _, c := range refusedTrees {
		problem(c.e, one, c.want)
		problem(c.e, nil, c.want)
		for _, other := range refusedVars {
			problem(c.e, other.vars, other.want)
		}
	}
	for _, c := range refusedVars {
		problem(read("1 / 0"), c.vars, c.want)
		problem(num(1), c.vars, c.want)
	}
	problem(read("1 / 0"), one, api.ErrZero)
	problem(read("1 / x"), one, api.ErrZero)
}

// P13.2: values that do not fit, also where they do not matter.
func TestTreeValues(t *testing.T) {
	refused := func(e api.Expr, env []api.Value) {
		t.Helper()
		if v, problem := eval.Tree(e, common(), env); v != (api.Value{}) || problem != api.ErrArg {
			t.Errorf("Tree(%s, %s) is %v, %d", show(e), brief(env), v, problem)
		}
		checkTree(t, e, common(), env)
	}
	for _, s := range []string{"1", "n", "1 / 0", "n / count", "if b then a else balance", "d + 1"} {
		e, fits := read(s), with("d 73048")
		refused(e, nil)
		refused(e, fits[:len(fits)-1])
		refused(e, fits[1:])
		refused(e, append(slices.Clone(fits), value("bool 0")))
		refused(e, append(slices.Clone(fits), api.Value{}))
		refused(e, slices.Repeat(fits, 2))
		for i := range fits {
			for _, other := range []api.Value{{}, {Type: 6}, {Type: -fits[i].Type}, {Type: fits[i].Type % 5 * 2}, {Type: 1<<32 + fits[i].Type}, {Type: fits[i].Type, N: greatest[fits[i].Type-1] + 1}, {Type: fits[i].Type, N: least[fits[i].Type-1] - 1}} {
				if isValue(other) && other.Type == fits[i].Type {
					continue
				}
				env := slices.Clone(fits)
				env[i] = other
				refused(e, env)
			}
		}
	}
}

// P13.2: expressions of MaxNodes nodes, and of MaxDepth levels.
func TestTreeLargest(t *testing.T) {
	sums := name("n")
	for range 5 {
		sums = node(api.OpAdd, sums, sums)
	}
	sums = node(api.OpNeg, sums)
	if expr.Nodes(sums) != api.MaxNodes {
		t.Fatalf("there are %d nodes", expr.Nodes(sums))
	}
	shown := func(e api.Expr, env []api.Value, want string, expected api.Errno) {
		t.Helper()
		result := api.Value{}
		if expected == api.OK {
			result = value(want)
		}
		if v, problem := eval.Tree(e, common(), env); v != result || problem != expected {
			t.Errorf("Tree(%s) is %v, %d; want %s, %d", show(e), v, problem, want, expected)
		}
		checkTree(t, e, common(), env)
	}
	shown(sums, with("n 3"), "number -96", api.OK)
	shown(sums, with("n -288230376151711744"), "", api.ErrOverflow)
	shown(sums, with("n -288230376151711743"), "number 9223372036854775776", api.OK)
	shown(sums, with("n 288230376151711743"), "number -9223372036854775776", api.OK)
	shown(sums, with("n 288230376151711744"), "", api.ErrOverflow)
	choices := name("n")
	for range api.MaxDepth - 1 {
		choices = node(api.OpIf, name("b"), num(7), choices)
	}
	shown(choices, with("n 5"), "number 5", api.OK)
	shown(choices, with("n 5, b 1"), "number 7", api.OK)
	// 21 times if, with 43 leaves.
	small := node(api.OpIf, name("b"), name("b"), name("active"))
	middle := node(api.OpIf, small, small, small)
	large := node(api.OpIf, small, name("active"), small)
	nested := node(api.OpIf, node(api.OpIf, middle, middle, small), node(api.OpIf, middle, large, name("b")), node(api.OpIf, name("active"), small, name("b")))
	if expr.Nodes(nested) != api.MaxNodes {
		t.Fatalf("there are %d nodes", expr.Nodes(nested))
	}
	shown(nested, with("b 1"), "bool 0", api.OK)
	shown(nested, with("active 1"), "bool 1", api.OK)
	shown(nested, with("b 1, active 1"), "bool 1", api.OK)
	shown(nested, with(""), "bool 0", api.OK)
	for depth := range api.MaxDepth {
		e, text := name("n"), strings.Repeat("-", depth%2)
		for range depth {
			e = node(api.OpNeg, e)
		}
		shown(e, with("n 9"), "number "+text+"9", api.OK)
		if depth > 0 {
			shown(e, with(fmt.Sprint("n ", math.MinInt)), "", api.ErrOverflow)
		}
	}
}

// P0.1: expressions that are far too large, strange or endless.
func TestTreeStrange(t *testing.T) {
	deep, wide := name("n"), name("n")
	for range 1 << 16 {
		deep = node(api.OpNeg, deep)
	}
	for range 60 {
		wide = node(api.OpAdd, wide, wide)
	}
	endless := node(api.OpNeg, api.Expr{Op: api.OpNeg})
	endless.Args[0].Args = endless.Args
	many := node(api.OpAdd, slices.Repeat([]api.Expr{name("n")}, 1<<20)...)
	for _, e := range []api.Expr{deep, wide, endless, many} {
		for _, env := range [][]api.Value{with(""), nil, slices.Repeat(with(""), 1<<16)} {
			if v, problem := eval.Tree(e, common(), env); v != (api.Value{}) || problem != api.ErrLimit {
				t.Errorf("Tree is %v, %d", v, problem)
			}
		}
	}
	if v, problem := eval.Tree(name("n"), common(), slices.Repeat(with(""), 1<<16)); v != (api.Value{}) || problem != api.ErrArg {
		t.Errorf("Tree is %v, %d", v, problem)
	}
	if v, problem := eval.Tree(endless, slices.Repeat(common(), 1<<16), nil); v != (api.Value{}) || problem != api.ErrLimit {
		t.Errorf("Tree is %v, %d", v, problem)
	}
}
