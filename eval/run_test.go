package eval_test

import (
	"fmt"
	"math"
	"slices"
	"testing"

	"corebank/api"
	"corebank/code"
	"corebank/eval"
)

// made returns code with the common variables.
func made(kind int, instrs ...api.Instr) api.Code {
	return api.Code{Type: kind, Vars: common(), Instrs: instrs}
}

// push, load, apply, jump and skip return instructions.
func push(kind, n int) api.Instr { return api.Instr{Op: api.InPush, A: kind, N: n} }
func apply(op string) api.Instr  { return api.Instr{Op: api.InOp, A: operators[op]} }
func jump(to int) api.Instr      { return api.Instr{Op: api.InJump, A: to} }
func skip(to int) api.Instr      { return api.Instr{Op: api.InFalse, A: to} }
func load(name string) api.Instr {
	return api.Instr{Op: api.InLoad, A: slices.IndexFunc(common(), func(v api.Var) bool { return v.Name == name })}
}

// compiled returns the code of the expression with a text and the common variables.
func compiled(s string) api.Code {
	c, problem := code.Compile(read(s), common())
	if problem != api.OK {
		panic(fmt.Sprint(s, " leads to ", problem))
	}
	return c
}

// runs requires a result of Run with a large budget, and how many instructions are executed. With fewer, there is an error, and with more, more is left.
func runs(t *testing.T, c api.Code, env, want string, steps int) {
	t.Helper()
	if code.Validate(c) != api.OK {
		t.Fatalf("%s is not valid", brief(c))
	}
	for _, fuel := range []int{steps, steps + 1, steps + 2, 2 * steps, 1 << 32, math.MaxInt} {
		if v, left, problem := eval.Run(c, with(env), fuel); v != value(want) || left != fuel-steps || problem != api.OK {
			t.Errorf("Run(%s, %s, %d) is %v, %d, %d; want %s, %d", brief(c), env, fuel, v, left, problem, want, fuel-steps)
		}
		checkRun(t, c, with(env), fuel)
	}
	starves(t, c, env, steps)
}

// starves requires that budgets of less than a number of instructions do not suffice.
func starves(t *testing.T, c api.Code, env string, steps int) {
	t.Helper()
	for _, fuel := range []int{steps - 1, steps - 2, steps / 2, 1, 0, -1, -2, -steps, -1 << 32, math.MinInt + 1, math.MinInt} {
		if fuel >= steps {
			continue
		}
		if v, left, problem := eval.Run(c, with(env), fuel); v != (api.Value{}) || left != 0 || problem != api.ErrFuel {
			t.Errorf("Run(%s, %s, %d) is %v, %d, %d; want %d", brief(c), env, fuel, v, left, problem, api.ErrFuel)
		}
		checkRun(t, c, with(env), fuel)
	}
}

// breaks requires an error of Apply in the last one of a number of instructions; with a smaller budget, there is another one.
func breaks(t *testing.T, c api.Code, env string, steps int, want api.Errno) {
	t.Helper()
	if code.Validate(c) != api.OK {
		t.Fatalf("%s is not valid", brief(c))
	}
	for _, fuel := range []int{steps, steps + 1, 2 * steps, 1 << 32, math.MaxInt} {
		if v, left, problem := eval.Run(c, with(env), fuel); v != (api.Value{}) || left != 0 || problem != want {
			t.Errorf("Run(%s, %s, %d) is %v, %d, %d; want %d", brief(c), env, fuel, v, left, problem, want)
		}
		checkRun(t, c, with(env), fuel)
	}
	starves(t, c, env, steps)
}

// P13.3: example 6.
func TestRunExample(t *testing.T) {
	c, _ := code.Compile(read("a + b"), declare("number a, number b"))
	if v, left, problem := eval.Run(c, values("number 3, number 4"), 3); v != value("number 7") || left != 0 || problem != api.OK {
		t.Errorf("Run is %v, %d, %d", v, left, problem)
	}
	if v, left, problem := eval.Run(c, values("number 3, number 4"), 2); v != (api.Value{}) || left != 0 || problem != api.ErrFuel {
		t.Errorf("Run is %v, %d, %d", v, left, problem)
	}
}

// P13.3: the code of expressions, with budgets of exactly what it needs, less and more.
func TestRunCompiled(t *testing.T) {
	const env = "n 7, count -3, a 1050, balance -250, r 15000, base 20000, d 100, first 59, b 1"
	for _, c := range []struct {
		s, want string
		steps   int
	}{
		{"5", "number 5", 1}, {"$ 7", "amount 7", 1}, {"1.5%", "rate 15000", 1}, {"n", "number 7", 1}, {"first", "day 59", 1}, {"b", "bool 1", 1}, {"active", "bool 0", 1}, {"- n", "number -7", 2}, {"not b", "bool 0", 2}, {"n - count", "number 10", 3}, {"count - n", "number -10", 3}, {"n / count", "number -2", 3}, {"a * r", "amount 16", 3}, {"a / balance", "number -4", 3}, {"balance / 4", "amount -62", 3}, {"d - first", "number 41", 3}, {"d - n", "day 93", 3},
		{"a < balance", "bool 0", 3}, {"balance < a", "bool 1", 3}, {"min(n, count)", "number -3", 3}, {"max(n, count)", "number 7", 3}, {"n - (count - 1)", "number 11", 5}, {"n - count - 1", "number 9", 5}, {"n * (n * (n * n))", "number 2401", 7}, {"- - - n", "number -7", 4},
		{"if b then 1 else 2", "number 1", 4}, {"if active then 1 else 2", "number 2", 3}, {"if b then n - count else 0", "number 10", 6}, {"if active then n - count else 0", "number 0", 3}, {"if b then if active then 1 else 2 else 3", "number 2", 6}, {"if active then 1 else if b then 2 else 3", "number 2", 6}, {"if (if b then active else b) then 1 else 2", "number 2", 6}, {"(if b then 5 else 6) + (if active then 5 else 6)", "number 11", 8}, {"1 + (if active then 1 / 0 else 2) * 3", "number 7", 7}, {"if b then 1 else 1 / 0", "number 1", 4}, {"b or active and b", "bool 1", 5},
	} {
		runs(t, compiled(c.s), env, c.want, c.steps)
		yields(t, c.s, env, c.want)
	}
	for _, c := range []struct {
		s     string
		steps int
		want  api.Errno
	}{
		{"1 / 0", 3, api.ErrZero}, {"d + 72949", 3, api.ErrOverflow}, {"1 / 0 + n", 3, api.ErrZero}, {"n + 1 / 0", 4, api.ErrZero}, {"b and 1 / 0 == 1", 4, api.ErrZero}, {"b or 1 / 0 == 1", 4, api.ErrZero}, {"if b then 1 / 0 else 1", 5, api.ErrZero}, {"if active then 1 else 1 / 0", 5, api.ErrZero}, {"if 1 / 0 == 1 then 1 else 2", 3, api.ErrZero}, {"(if active then 1 else 2) / 0", 5, api.ErrZero}, {"- (9223372036854775807 + n)", 3, api.ErrOverflow}, {"- (n - n - 9223372036854775807 - 1)", 8, api.ErrOverflow}, {"min(1 / 0, 9223372036854775807 + n)", 3, api.ErrZero}, {"min(9223372036854775807 + n, 1 / 0)", 3, api.ErrOverflow},
	} {
		breaks(t, compiled(c.s), env, c.steps, c.want)
		fails(t, c.s, env, c.want)
	}
}

// P13.3: code that no expression leads to.
func TestRunOther(t *testing.T) {
	// A jump in front, to the next instruction, and to the end.
	runs(t, made(1, jump(1), push(1, 5)), "", "number 5", 2)
	runs(t, made(1, push(1, 5), jump(2)), "", "number 5", 2)
	runs(t, made(1, push(1, 5), jump(2), jump(3), jump(4)), "", "number 5", 4)
	runs(t, made(1, push(1, 5), load("b"), skip(3)), "b 1", "number 5", 3)
	runs(t, made(1, push(1, 5), load("b"), skip(3)), "", "number 5", 3)
	runs(t, made(1, push(1, 5), load("b"), skip(4), apply("neg")), "", "number 5", 3)
	runs(t, made(1, push(1, 5), load("b"), skip(4), apply("neg")), "b 1", "number -5", 4)
	// Jumps to one place, and from jump to jump.
	several := made(1, load("n"), load("b"), skip(6), load("active"), skip(6), apply("neg"), push(1, 2), apply("mul"))
	runs(t, several, "n 5", "number 10", 5)
	runs(t, several, "n 5, b 1", "number 10", 7)
	runs(t, several, "n 5, b 1, active 1", "number -10", 8)
	chained := made(1, load("n"), load("b"), skip(5), apply("neg"), jump(7), jump(6), jump(7), jump(8))
	runs(t, chained, "n 5", "number 5", 6)
	runs(t, chained, "n 5, b 1", "number -5", 6)
	// Operators with more on the stack than they take, and a constant as a condition that is computed.
	runs(t, made(2, load("a"), load("n"), load("count"), apply("sub"), apply("mul")), "a 3, n 9, count 4", "amount 15", 5)
	runs(t, made(4, load("d"), load("n"), load("count"), apply("neg"), apply("max"), apply("sub")), "d 9, n 1, count -4", "day 5", 6)
	runs(t, made(1, push(1, 3), push(1, 3), push(1, 4), apply("eq"), skip(6), apply("neg"), push(1, 1), apply("add")), "", "number 4", 7)
	// A value below an if stays where it is.
	runs(t, made(1, push(1, 10), load("b"), skip(5), push(1, 1), jump(6), push(1, 2), apply("sub")), "b 1", "number 9", 6)
	runs(t, made(1, push(1, 10), load("b"), skip(5), push(1, 1), jump(6), push(1, 2), apply("sub")), "", "number 8", 5)
	// The greatest numbers of constants.
	runs(t, made(1, push(1, math.MaxInt)), "", "number 9223372036854775807", 1)
	runs(t, made(2, push(2, api.MaxAmount)), "", "amount 1000000000000", 1)
	runs(t, made(3, push(3, api.MaxPpm)), "", "rate 1000000", 1)
	runs(t, made(1, push(1, 0)), "", "number 0", 1)
	// MaxCode instructions, and MaxStack values.
	long := []api.Instr{load("n")}
	for range 127 {
		long = append(long, apply("neg"))
	}
	runs(t, made(1, long...), "n 5", "number -5", 128)
	breaks(t, made(1, long...), "n -9223372036854775808", 2, api.ErrOverflow)
	high := slices.Repeat([]api.Instr{load("n")}, 16)
	high = append(high, slices.Repeat([]api.Instr{apply("sub")}, 15)...)
	runs(t, made(1, high...), "n 5", "number 0", 31)
	// No variables.
	for _, env := range [][]api.Value{nil, {}} {
		c := api.Code{Type: 1, Instrs: []api.Instr{push(1, 4), push(1, 2), apply("sub")}}
		if v, left, problem := eval.Run(c, env, 5); v != value("number 2") || left != 2 || problem != api.OK {
			t.Errorf("Run is %v, %d, %d", v, left, problem)
		}
		checkRun(t, c, env, 3)
	}
}

// P13.3: code that is not valid, also with values that do not fit and with no budget.
func TestRunRefused(t *testing.T) {
	valid := compiled("n + 1")
	long := made(1, load("n"))
	for range 128 {
		long.Instrs = append(long.Instrs, apply("neg"))
	}
	many := valid
	many.Vars = nil
	var fitting []api.Value
	for i := range api.MaxList + 1 {
		many.Vars = append(many.Vars, api.Var{Name: fmt.Sprint("v", i), Type: 1})
		fitting = append(fitting, value("number 1"))
	}
	renamed := func(at int, v api.Var) api.Code {
		c := valid
		c.Vars = slices.Clone(c.Vars)
		c.Vars[at] = v
		return c
	}
	for _, c := range []api.Code{
		{}, {Type: 1}, made(1), made(2, load("n")), made(0, load("n")), made(1, apply("add")), made(1, load("n"), load("n")), made(1, load("n"), load("a"), apply("add")), made(1, jump(0), load("n")), made(1, load("n"), jump(3)), made(1, load("n"), jump(1)), made(1, load("n"), skip(2)), made(1, push(1, -1)), made(4, push(4, 1)), made(5, push(5, 1)), made(2, push(2, api.MaxAmount+1)), made(3, push(3, api.MaxPpm+1)), made(1, api.Instr{Op: 0}), made(1, api.Instr{Op: 6}), made(1, api.Instr{Op: api.InLoad, A: 10}), made(1, api.Instr{Op: api.InLoad, A: -1}), made(1, load("n"), apply("if")), made(1, load("b"), load("n"), load("n"), apply("if")), made(1, load("n"), api.Instr{Op: api.InOp, A: 1}),
		long, many, made(1, slices.Repeat([]api.Instr{load("n")}, 17)...), made(1, slices.Repeat([]api.Instr{load("n")}, 1<<20)...), renamed(0, api.Var{Name: "N", Type: 1}), renamed(9, api.Var{Name: "n", Type: 5}), renamed(9, api.Var{Name: "active"}), renamed(9, api.Var{Name: "active", Type: 6}),
		// The wrong instruction is never executed.
		made(1, push(1, 1), jump(3), apply("add")), made(1, push(1, 1), push(1, 0), apply("div"), apply("add")),
	} {
		for _, env := range [][]api.Value{with(""), nil, fitting, with("")[1:], values("bool 2")} {
			for _, fuel := range []int{1000, 128, 3, 1, 0, -1, math.MinInt, math.MaxInt} {
				if v, left, problem := eval.Run(c, env, fuel); v != (api.Value{}) || left != 0 || problem != api.ErrCode {
					t.Errorf("Run(%s, %s, %d) is %v, %d, %d", brief(c), brief(env), fuel, v, left, problem)
				}
			}
		}
	}
}

// P13.3: values that do not fit the variables of valid code, also with no budget and with an error of Apply.
func TestRunValues(t *testing.T) {
	for _, s := range []string{"1", "n", "1 / 0", "n / count", "if b then a else balance"} {
		c, fits := compiled(s), with("")
		wrong := [][]api.Value{nil, {}, fits[:9], fits[1:], append(slices.Clone(fits), value("bool 0")), append(slices.Clone(fits), api.Value{}), slices.Repeat(fits, 1<<16)}
		for i := range fits {
			for _, other := range []api.Value{{}, {Type: 6}, {Type: fits[i].Type%5 + 1}, {Type: -1}, {Type: 2, N: api.MaxAmount + 1}, {Type: 3, N: -1000000001}, {Type: 4, N: 73049}, {Type: 4, N: -1}, {Type: 5, N: 2}, {Type: 5, N: -1}} {
				env := slices.Clone(fits)
				env[i] = other
				wrong = append(wrong, env)
			}
		}
		for _, env := range wrong {
			for _, fuel := range []int{1000, 3, 2, 0, -1, math.MinInt, math.MaxInt} {
				if v, left, problem := eval.Run(c, env, fuel); v != (api.Value{}) || left != 0 || problem != api.ErrArg {
					t.Errorf("Run(%s, %s, %d) is %v, %d, %d", s, brief(env), fuel, v, left, problem)
				}
			}
		}
	}
}

// P13.3: the variables of the code count, also those that it does not load, and their order.
func TestRunVariables(t *testing.T) {
	c := api.Code{Type: api.TyNumber, Vars: declare("amount x, number y, bool z"), Instrs: []api.Instr{{Op: api.InLoad, A: 1}}}
	for _, one := range []struct {
		env     string
		want    api.Value
		problem api.Errno
	}{
		{"amount 1, number 2, bool 1", value("number 2"), api.OK}, {"amount 3, number -2, bool 0", value("number -2"), api.OK}, {"number 2, amount 1, bool 1", api.Value{}, api.ErrArg}, {"amount 1, number 2", api.Value{}, api.ErrArg}, {"number 2", api.Value{}, api.ErrArg}, {"amount 1, number 2, bool 3", api.Value{}, api.ErrArg}, {"amount 1000000000001, number 2, bool 1", api.Value{}, api.ErrArg},
	} {
		if v, _, problem := eval.Run(c, values(one.env), 10); v != one.want || problem != one.problem {
			t.Errorf("Run with %s is %v, %d", one.env, v, problem)
		}
		checkRun(t, c, values(one.env), 1)
	}
}
