package code_test

import (
	"fmt"
	"math"
	"slices"
	"strings"
	"testing"

	"corebank/api"
	"corebank/code"
	"corebank/expr"
)

// P12.1, P12.4: example 1.
func TestCompileExample(t *testing.T) {
	vars := declare("number age, amount amount")
	c, problem := code.Compile(read("if age < 5 then $ 3 else amount"), vars)
	want := []api.Instr{{Op: api.InLoad, A: 0}, {Op: api.InPush, A: api.TyNumber, N: 5}, {Op: api.InOp, A: api.OpLt}, {Op: api.InFalse, A: 6}, {Op: api.InPush, A: api.TyAmount, N: 3}, {Op: api.InJump, A: 7}, {Op: api.InLoad, A: 1}}
	if problem != api.OK || c.Type != api.TyAmount || !slices.Equal(c.Vars, vars) || !slices.Equal(c.Instrs, want) {
		t.Fatalf("Compile is %v, %d", c, problem)
	}
	if text := code.Print(c); text != "load age\npush number 5\nlt\nfalse 6\npush amount 3\njump 7\nload amount\n" {
		t.Errorf("Print is %q", text)
	}
	accepted(t, c, 2)
}

// P12.1: the numbers of the opcodes, of the types and of the operators are those of package api.
func TestCompileNumbers(t *testing.T) {
	c, _ := code.Compile(read("if b then 7 else n + 8"), common())
	if s := fmt.Sprint(c.Instrs); s != "[{2 8 0} {5 4 0} {1 1 7} {4 7 0} {2 0 0} {1 1 8} {3 5 0}]" || c.Type != 1 {
		t.Errorf("Compile is %s with the type %d", s, c.Type)
	}
}

// P12.1: constants and variables.
func TestCompileLeaves(t *testing.T) {
	for _, vars := range [][]api.Var{nil, {}, common(), numbered(64)} {
		for e, want := range map[*api.Expr]api.Instr{
			{Op: api.OpNum}: {Op: api.InPush, A: api.TyNumber}, {Op: api.OpNum, N: 7}: {Op: api.InPush, A: api.TyNumber, N: 7}, {Op: api.OpNum, N: math.MaxInt}: {Op: api.InPush, A: api.TyNumber, N: math.MaxInt},
			{Op: api.OpCash}: {Op: api.InPush, A: api.TyAmount}, {Op: api.OpCash, N: 1000000000000}: {Op: api.InPush, A: api.TyAmount, N: 1000000000000},
			{Op: api.OpRate}: {Op: api.InPush, A: api.TyRate}, {Op: api.OpRate, N: 1000000}: {Op: api.InPush, A: api.TyRate, N: 1000000},
		} {
			c, problem := code.Compile(*e, vars)
			if problem != api.OK || c.Type != want.A || !slices.Equal(c.Vars, vars) || !slices.Equal(c.Instrs, []api.Instr{want}) {
				t.Errorf("Compile(%v) is %v, %d", *e, c, problem)
			}
			accepted(t, c, 1)
		}
		for i, v := range vars {
			c, problem := code.Compile(name(v.Name), vars)
			if problem != api.OK || c.Type != v.Type || !slices.Equal(c.Vars, vars) || !slices.Equal(c.Instrs, []api.Instr{{Op: api.InLoad, A: i}}) {
				t.Errorf("Compile(%s) is %v, %d", v.Name, c, problem)
			}
			accepted(t, c, 1)
		}
	}
}

// sample returns a variable, and a constant if there is one, of a type.
func sample(kind int) []api.Expr {
	l := []api.Expr{name([]string{"", "n", "a", "r", "d", "b"}[kind])}
	switch kind {
	case api.TyNumber:
		l = append(l, num(3))
	case api.TyAmount:
		l = append(l, cash(4))
	case api.TyRate:
		l = append(l, rate(5))
	}
	return l
}

// P12.1: each operator with each combination of types that it takes, and with the others.
func TestCompileOperators(t *testing.T) {
	for _, one := range rows() {
		for choice := range 4 {
			e := api.Expr{Op: names[one.name]}
			for i, kind := range one.operands {
				some := sample(kind)
				e.Args = append(e.Args, some[choice>>i%2%len(some)])
			}
			checkCompile(t, e, common())
			c, problem := code.Compile(e, common())
			if last := len(one.operands); problem != api.OK || c.Type != one.result || len(c.Instrs) != last+1 || c.Instrs[last] != (api.Instr{Op: api.InOp, A: names[one.name]}) {
				t.Errorf("Compile(%s) is %v, %d", show(e), c, problem)
			}
			accepted(t, c, len(one.operands))
		}
	}
	for op := api.OpAdd; op <= api.OpMax; op++ {
		for _, first := range kinds {
			for _, second := range kinds {
				operands := []api.Expr{sample(first)[0], sample(second)[0]}
				checkCompile(t, node(op, operands[:arity(op)]...), common())
			}
		}
	}
	for _, kind := range kinds {
		x := sample(kind)[0]
		c, problem := code.Compile(node(api.OpIf, name("active"), x, x), common())
		if problem != api.OK || c.Type != kind {
			t.Errorf("Compile is %v, %d", c, problem)
		}
		accepted(t, c, 1)
		checkCompile(t, node(api.OpIf, x, x, x), common())
	}
}

// P12.1, P12.3, P12.4: operands from left to right, and both sides of and and or.
func TestCompileLevels(t *testing.T) {
	lists(t, "n - count", api.TyNumber, 2, "load n, load count, sub")
	lists(t, "count - n", api.TyNumber, 2, "load count, load n, sub")
	lists(t, "- n", api.TyNumber, 1, "load n, neg")
	lists(t, "not not b", api.TyBool, 1, "load b, not, not")
	lists(t, "b and active", api.TyBool, 2, "load b, load active, and")
	lists(t, "b or not active", api.TyBool, 2, "load b, load active, not, or")
	lists(t, "b and (active or b)", api.TyBool, 3, "load b, load active, load b, or, and")
	lists(t, "d - first == n", api.TyBool, 2, "load d, load first, sub, load n, eq")
	lists(t, "d + 3 - n", api.TyDay, 2, "load d, push number 3, add, load n, sub")
	lists(t, "n - (n - (n - 1))", api.TyNumber, 4, "load n, load n, load n, push number 1, sub, sub, sub")
	lists(t, "n - 1 - 2 - 3", api.TyNumber, 2, "load n, push number 1, sub, push number 2, sub, push number 3, sub")
	lists(t, "max($ 5, min(a, balance) * 1.5%) / 2", api.TyAmount, 3, "push amount 5, load a, load balance, min, push rate 15000, mul, max, push number 2, div")
	lists(t, "a < balance and n <= 3 or r != base", api.TyBool, 3, "load a, load balance, lt, load n, push number 3, le, and, load r, load base, ne, or")
	lists(t, "a * r + $ 0 - balance * 100%", api.TyAmount, 3, "load a, load r, mul, push amount 0, add, load balance, push rate 1000000, mul, sub")
	lists(t, "a / balance * (n + count) - 9223372036854775807", api.TyNumber, 3, "load a, load balance, div, load n, load count, add, mul, push number 9223372036854775807, sub")
}

// P12.1, P12.3, P12.4: an if within each operand of an if.
func TestCompileIfInIf(t *testing.T) {
	lists(t, "if b then n else count", api.TyNumber, 1, "load b, false 4, load n, jump 5, load count")
	lists(t, "if (if b then active else a < balance) then d else first", api.TyDay, 2, "load b, false 4, load active, jump 7, load a, load balance, lt, false 10, load d, jump 11, load first")
	lists(t, "if b then if active then n else 1 else 2", api.TyNumber, 1, "load b, false 8, load active, false 6, load n, jump 7, push number 1, jump 9, push number 2")
	lists(t, "if b then 1 else if active then n else 2", api.TyNumber, 1, "load b, false 4, push number 1, jump 9, load active, false 8, load n, jump 9, push number 2")
	lists(t, "if (if b then active else b) then if b then 1 else 2 else if active then 3 else 4", api.TyNumber, 1, "load b, false 4, load active, jump 5, load b, false 12, load b, false 10, push number 1, jump 11, push number 2, jump 17, load active, false 16, push number 3, jump 17, push number 4")
}

// P12.1, P12.3, P12.4: an if as an operand of other operators.
func TestCompileIfAsOperand(t *testing.T) {
	lists(t, "(if b then n else 1) + 2", api.TyNumber, 2, "load b, false 4, load n, jump 5, push number 1, push number 2, add")
	lists(t, "2 + (if b then n else 1)", api.TyNumber, 2, "push number 2, load b, false 5, load n, jump 6, push number 1, add")
	lists(t, "- (if b then a else balance)", api.TyAmount, 1, "load b, false 4, load a, jump 5, load balance, neg")
	lists(t, "not (if b then active else b)", api.TyBool, 1, "load b, false 4, load active, jump 5, load b, not")
	lists(t, "max(if b then r else base, if active then 1% else 2%)", api.TyRate, 2, "load b, false 4, load r, jump 5, load base, load active, false 9, push rate 10000, jump 10, push rate 20000, max")
	lists(t, "n - (n - (if b then n - 1 else n))", api.TyNumber, 4, "load n, load n, load b, false 8, load n, push number 1, sub, jump 9, load n, sub, sub")
	for _, op := range []int{api.OpAdd, api.OpSub, api.OpMul, api.OpDiv, api.OpEq, api.OpNe, api.OpLt, api.OpLe, api.OpMin, api.OpMax} {
		choice := node(api.OpIf, name("b"), name("n"), num(1))
		for _, e := range []api.Expr{node(op, choice, num(2)), node(op, num(2), choice), node(op, choice, choice), node(op, node(api.OpNeg, choice), choice)} {
			checkCompile(t, e, common())
			checkCompile(t, node(api.OpIf, node(api.OpEq, e, e), e, e), common())
		}
	}
	for _, op := range []int{api.OpAnd, api.OpOr} {
		choice := node(api.OpIf, name("b"), name("active"), name("b"))
		for _, e := range []api.Expr{node(op, choice, name("b")), node(op, name("b"), choice), node(op, choice, choice), node(op, node(api.OpNot, choice), choice)} {
			checkCompile(t, e, common())
			checkCompile(t, node(api.OpIf, e, choice, e), common())
		}
	}
}

// chain returns an expression of a number of levels in which each one is an operand of the next one.
func chain(levels int, leaf api.Expr, above func(api.Expr) api.Expr) api.Expr {
	e := leaf
	for range levels - 1 {
		e = above(e)
	}
	return e
}

// P12.1, P12.3, P12.6: MaxDepth levels, to the left and to the right, and one more.
func TestCompileDepth(t *testing.T) {
	for _, c := range []struct {
		leaf  api.Expr
		depth int
		above func(api.Expr) api.Expr
	}{
		{name("n"), 2, func(e api.Expr) api.Expr { return node(api.OpSub, e, num(1)) }},
		{name("n"), 8, func(e api.Expr) api.Expr { return node(api.OpSub, num(1), e) }},
		{name("a"), 8, func(e api.Expr) api.Expr { return node(api.OpMin, cash(1), e) }},
		{name("b"), 2, func(e api.Expr) api.Expr { return node(api.OpAnd, e, name("active")) }},
		{name("b"), 8, func(e api.Expr) api.Expr { return node(api.OpOr, name("active"), e) }},
		{name("r"), 1, func(e api.Expr) api.Expr { return node(api.OpNeg, e) }},
		{name("b"), 1, func(e api.Expr) api.Expr { return node(api.OpNot, e) }},
		{name("b"), 1, func(e api.Expr) api.Expr { return node(api.OpIf, e, name("b"), name("active")) }},
		{name("d"), 1, func(e api.Expr) api.Expr { return node(api.OpIf, name("b"), e, name("first")) }},
		{name("d"), 1, func(e api.Expr) api.Expr { return node(api.OpIf, name("b"), name("first"), e) }},
	} {
		for levels := 1; levels <= 8; levels++ {
			e := chain(levels, c.leaf, c.above)
			checkCompile(t, e, common())
			found, _ := code.Compile(e, common())
			accepted(t, found, min(c.depth, levels))
		}
		for _, levels := range []int{9, 10, 1 << 12} {
			fails(t, chain(levels, c.leaf, c.above), common(), api.ErrLimit)
		}
	}
}

// P12.1, P12.6: MaxNodes nodes, with as few and with as many instructions as possible, and one more.
func TestCompileNodes(t *testing.T) {
	// The leaves of a full tree of 7 levels are 64; without one level there are 32 of them and 63 nodes.
	var full func(levels int) api.Expr
	full = func(levels int) api.Expr {
		if levels == 1 {
			return name("n")
		}
		return node(api.OpSub, full(levels-1), full(levels-1))
	}
	var choices func(levels int) api.Expr
	choices = func(levels int) api.Expr {
		if levels == 1 {
			return name("b")
		}
		return node(api.OpIf, choices(levels-1), choices(levels-1), choices(levels-1))
	}
	// 4 levels of choices have 40 nodes. Of their 27 leaves, 8 become choices, which have 3 nodes more.
	most := choices(4)
	for i := range 8 {
		most.Args[i/3].Args[i%3].Args[2] = choices(2)
	}
	for _, c := range []struct {
		e             api.Expr
		nodes, instrs int
	}{
		{full(6), 63, 63}, {node(api.OpNeg, full(6)), 64, 64}, {choices(4), 40, 53}, {most, 64, 85},
	} {
		checkCompile(t, c.e, common())
		found, problem := code.Compile(c.e, common())
		if nodes := expr.Nodes(c.e); problem != api.OK || nodes != c.nodes || len(found.Instrs) != c.instrs {
			t.Errorf("Compile of %d nodes returns %d instructions, %d", nodes, len(found.Instrs), problem)
		}
	}
	for _, e := range []api.Expr{full(7), node(api.OpNot, most), node(api.OpNeg, node(api.OpNeg, full(6))), node(api.OpIf, name("b"), most, most), choices(5)} {
		fails(t, e, common(), api.ErrLimit)
	}
}

// fails requires an error of Compile, and nothing else.
func fails(t *testing.T, e api.Expr, vars []api.Var, want api.Errno) {
	t.Helper()
	c, problem := code.Compile(e, vars)
	if problem != want || c.Type != 0 || len(c.Vars) != 0 || len(c.Instrs) != 0 {
		t.Errorf("Compile(%s, %s) is %s, %d; want %d", show(e), brief(vars), brief(c), problem, want)
	}
}

// wrongVars are lists of variables, by the errors of typing.Vars that they lead to.
func wrongVars() map[api.Errno][][]api.Var {
	with := func(more ...api.Var) []api.Var { return append(common(), more...) }
	x := api.Var{Name: "x", Type: api.TyDay}
	return map[api.Errno][][]api.Var{
		api.ErrLimit:     {numbered(65), append(common(), numbered(64)...), make([]api.Var, 1000)},
		api.ErrName:      {with(api.Var{Type: 1}), with(api.Var{Name: "if", Type: 1}), with(api.Var{Name: "X", Type: 1}), with(api.Var{Name: "abcdefghijklmnopq", Type: 1}), {{}}, {{Name: "min"}, x, x}},
		api.ErrDuplicate: {with(common()...), with(x, x), {x, {Name: "x"}, {Name: "y"}}},
		api.ErrType:      {with(api.Var{Name: "x"}), with(api.Var{Name: "x", Type: 6}), with(api.Var{Name: "x", Type: -1}), {{Name: "x", Type: 1<<32 + 1}, x}},
	}
}

// P12.1: the errors of typing.Vars come first, also before those of the expression.
func TestCompileErrorsOfVars(t *testing.T) {
	for want, l := range wrongVars() {
		for _, vars := range l {
			for _, e := range []api.Expr{num(1), name("n"), name("x"), name("unknown"), name("if"), {}, num(-1), node(api.OpAdd), read("n + a"), chain(9, num(1), func(e api.Expr) api.Expr { return node(api.OpNeg, e) })} {
				fails(t, e, vars, want)
			}
		}
	}
}

// P12.1: the errors of typing.Of.
func TestCompileErrorsOfTyping(t *testing.T) {
	for _, c := range []struct {
		e    api.Expr
		want api.Errno
	}{
		{api.Expr{}, api.ErrArg}, {node(20, num(1), num(2)), api.ErrArg}, {node(-1), api.ErrArg}, {num(-1), api.ErrArg}, {cash(-1), api.ErrArg}, {rate(-1), api.ErrArg}, {cash(api.MaxAmount + 1), api.ErrArg}, {rate(api.MaxPpm + 1), api.ErrArg},
		{node(api.OpAdd, num(1)), api.ErrArg}, {node(api.OpNeg), api.ErrArg}, {node(api.OpNot, name("b"), name("b")), api.ErrArg}, {node(api.OpIf, name("b"), num(1)), api.ErrArg}, {node(api.OpNum, num(1)), api.ErrArg}, {api.Expr{Op: api.OpVar, S: "n", N: 1}, api.ErrArg}, {api.Expr{Op: api.OpNum, S: "n"}, api.ErrArg},
		{name(""), api.ErrName}, {name("then"), api.ErrName}, {name("N"), api.ErrName}, {name("unknown"), api.ErrName}, {read("n + unknown"), api.ErrName}, {read("(unknown + $ 1) + 1"), api.ErrName},
		{read("n + a"), api.ErrType}, {read("(1 + $ 1) + unknown"), api.ErrType}, {read("if n then 1 else 2"), api.ErrType}, {read("if b then 1 else $ 1"), api.ErrType}, {read("not n"), api.ErrType}, {read("- d"), api.ErrType}, {read("b < active"), api.ErrType}, {read("a * balance"), api.ErrType}, {read("r / base"), api.ErrType},
	} {
		fails(t, c.e, common(), c.want)
		checkCompile(t, c.e, common())
		checkCompile(t, node(api.OpNeg, c.e), common())
	}
	for s, want := range map[string]api.Errno{"n": api.ErrName, "n + 1": api.ErrName, "1 + $ 1": api.ErrType} {
		fails(t, read(s), nil, want)
		fails(t, read(s), []api.Var{}, want)
		fails(t, read(s), declare("number x, day m"), want)
	}
}

// P12.1: the order of the variables decides only about the indexes.
func TestCompileVariables(t *testing.T) {
	e := read("if b then n - count else 0")
	vars := common()
	for range len(vars) {
		vars = append(vars[1:], vars[0])
		checkCompile(t, e, vars)
		c, _ := code.Compile(e, vars)
		if text := code.Print(c); text != "load b\nfalse 6\nload n\nload count\nsub\njump 7\npush number 0\n" {
			t.Errorf("Print is %q", text)
		}
	}
	many := numbered(64)
	checkCompile(t, read("v0 + v60 - v5 * v55"), many)
	c, _ := code.Compile(read("v63 < v3"), many)
	if text := code.Print(c); text != "load v63\nload v3\nlt\n" || c.Instrs[0].A != 63 || c.Instrs[1].A != 3 {
		t.Errorf("Compile is %v", c)
	}
	// Names that begin with others.
	alike := declare("amount aaa, number aa, day aaaa, rate a")
	c, _ = code.Compile(read("aaa * a * aa"), alike)
	if text := code.Print(c); text != "load aaa\nload a\nmul\nload aa\nmul\n" || !strings.HasPrefix(fmt.Sprint(c.Instrs), "[{2 0 0} {2 3 0}") {
		t.Errorf("Compile is %v", c)
	}
}

// P0.4: arguments are neither changed nor kept.
func TestCompileKeepsNothing(t *testing.T) {
	e := read("if b then n - 1 else count")
	room := append(common(), api.Var{Name: "behind", Type: 1})
	vars := room[:len(room)-1]
	first, _ := code.Compile(e, vars)
	second, _ := code.Compile(e, vars)
	want, before := fmt.Sprint(second), show(e)
	_, _ = append(first.Vars, api.Var{}), append(first.Instrs, api.Instr{})
	first.Vars[0], first.Instrs[0] = api.Var{}, api.Instr{}
	if fmt.Sprint(second) != want || fmt.Sprint(room) != fmt.Sprint(append(common(), api.Var{Name: "behind", Type: 1})) || show(e) != before {
		t.Errorf("%v and %v are left of %s", second, room, want)
	}
	vars[0], vars[8] = api.Var{}, api.Var{}
	e.Args[0], e.Args[1].Args[1] = num(0), num(0)
	if fmt.Sprint(second) != want {
		t.Errorf("%v is left of %s", second, want)
	}
}
