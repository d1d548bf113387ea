package eval_test

import (
	"fmt"
	"math/big"
	"math/rand/v2"
	"slices"
	"strconv"
	"strings"
	"testing"

	"corebank/api"
	"corebank/code"
	"corebank/eval"
	"corebank/expr"
	"corebank/token"
	"corebank/typing"
)

// seeded gives the same numbers in every run.
func seeded() *rand.Rand { return rand.New(rand.NewPCG(13, 13)) }

// types are the five types, by their names.
var types = map[string]int{"number": api.TyNumber, "amount": api.TyAmount, "rate": api.TyRate, "day": api.TyDay, "bool": api.TyBool}

// kinds are the types by their numbers.
var kinds = []int{1, 2, 3, 4, 5}

// operators are the operators with operands, by the names of chapter 12, and if.
var operators = map[string]int{
	"add": api.OpAdd, "sub": api.OpSub, "mul": api.OpMul, "div": api.OpDiv, "neg": api.OpNeg, "eq": api.OpEq, "ne": api.OpNe, "lt": api.OpLt, "le": api.OpLe,
	"and": api.OpAnd, "or": api.OpOr, "not": api.OpNot, "min": api.OpMin, "max": api.OpMax, "if": api.OpIf,
}

// least and greatest are the limits of the numbers of each type, in the order of the types.
var (
	least    = []int{-1 << 63, -1000000000000, -1000000000, 0, 0}
	greatest = []int{1<<63 - 1, 1000000000000, 1000000000, 73048, 1}
)

// declare returns variables that are listed as "number n, day first".
func declare(s string) []api.Var {
	var vars []api.Var
	for field := range strings.SplitSeq(s, ",") {
		if parts := strings.Fields(field); len(parts) == 2 {
			vars = append(vars, api.Var{Name: parts[1], Type: types[parts[0]]})
		}
	}
	return vars
}

// common are variables of each type.
func common() []api.Var {
	return declare("number n, number count, amount a, amount balance, rate r, rate base, day d, day first, bool b, bool active")
}

// with returns values of the common variables, of which some are listed as "n 5, b 1" and all others are 0.
func with(s string) []api.Value {
	numbers := map[string]int{}
	for field := range strings.SplitSeq(s, ",") {
		if parts := strings.Fields(field); len(parts) == 2 {
			numbers[parts[0]] = integer(parts[1])
		}
	}
	var env []api.Value
	for _, v := range common() {
		env = append(env, api.Value{Type: v.Type, N: numbers[v.Name]})
		delete(numbers, v.Name)
	}
	if len(numbers) > 0 {
		panic(s)
	}
	return env
}

// integer returns the int with a text.
func integer(s string) int {
	n, err := strconv.Atoi(s)
	if err != nil {
		panic(err)
	}
	return n
}

// values returns values that are listed as "number 5, day 3".
func values(s string) []api.Value {
	var l []api.Value
	for field := range strings.SplitSeq(s, ",") {
		if parts := strings.Fields(field); len(parts) == 2 {
			if types[parts[0]] == 0 {
				panic(s)
			}
			l = append(l, api.Value{Type: types[parts[0]], N: integer(parts[1])})
		}
	}
	return l
}

// value returns the value with a text.
func value(s string) api.Value { return values(s)[0] }

// node returns an expression with operands.
func node(op int, operands ...api.Expr) api.Expr { return api.Expr{Op: op, Args: operands} }

// num, cash, rate and name return expressions of one node.
func num(n int) api.Expr     { return api.Expr{Op: api.OpNum, N: n} }
func cash(n int) api.Expr    { return api.Expr{Op: api.OpCash, N: n} }
func rate(n int) api.Expr    { return api.Expr{Op: api.OpRate, N: n} }
func name(s string) api.Expr { return api.Expr{Op: api.OpVar, S: s} }

// read returns the expression with a text.
func read(s string) api.Expr {
	l, _, problem := token.Tokenize(s)
	if problem != api.OK {
		panic(fmt.Sprintf("Tokenize(%q) is %d", s, problem))
	}
	e, next, problem := expr.Parse(l, 0)
	if problem != api.OK || next != len(l) {
		panic(fmt.Sprintf("Parse(%q) is %d, %d", s, next, problem))
	}
	return e
}

// show returns the text of a valid expression, and the fields of another one, unless it is too large.
func show(e api.Expr) string {
	if expr.Validate(e) == api.ErrLimit {
		return "(a large expression)"
	}
	if l, problem := expr.Tokens(e); problem == api.OK {
		s, _ := token.Join(l)
		return s
	}
	return brief(e)
}

// brief returns the beginning of a value as text.
func brief(v any) string {
	s := fmt.Sprint(v)
	return s[:min(len(s), 600)]
}

// arity returns the number of operands of an operator.
func arity(op int) int {
	switch op {
	case api.OpNum, api.OpCash, api.OpRate, api.OpVar:
		return 0
	case api.OpNeg, api.OpNot:
		return 1
	case api.OpIf:
		return 3
	}
	return 2
}

// isValue reports whether a type is one, and a number within its limits.
func isValue(v api.Value) bool {
	return slices.Contains(kinds, v.Type) && v.N >= least[v.Type-1] && v.N <= greatest[v.Type-1]
}

// exactly returns the result of an operator before it is rounded, as a fraction, or nil for a division by 0.
func exactly(op int, args []api.Value) *big.Rat {
	var l [3]*big.Rat
	for i, one := range args {
		l[i] = new(big.Rat).SetInt(big.NewInt(int64(one.N)))
	}
	truth := func(b bool) *big.Rat {
		if b {
			return big.NewRat(1, 1)
		}
		return new(big.Rat)
	}
	order, z := 0, new(big.Rat)
	if len(args) == 2 {
		order = l[0].Cmp(l[1])
	}
	switch op {
	case api.OpAdd:
		return z.Add(l[0], l[1])
	case api.OpSub:
		return z.Sub(l[0], l[1])
	case api.OpMul:
		if args[0].Type*args[1].Type == api.TyAmount*api.TyRate {
			l[0].Mul(l[0], big.NewRat(1, 1000000))
		}
		return z.Mul(l[0], l[1])
	case api.OpDiv:
		if args[1].N == 0 {
			return nil
		}
		return z.Quo(l[0], l[1])
	case api.OpNeg:
		return z.Neg(l[0])
	case api.OpEq:
		return truth(order == 0)
	case api.OpNe:
		return truth(order != 0)
	case api.OpLt:
		return truth(order < 0)
	case api.OpLe:
		return truth(order <= 0)
	case api.OpAnd, api.OpOr, api.OpNot:
		truths := map[int]string{api.OpAnd: "11", api.OpOr: "01 10 11", api.OpNot: "0"}
		var digits string
		for _, one := range args {
			digits += strconv.Itoa(one.N)
		}
		return truth(slices.Contains(strings.Fields(truths[op]), digits))
	case api.OpMin, api.OpMax:
		first := order <= 0
		if op == api.OpMax {
			first = order >= 0
		}
		if first {
			return l[0]
		}
		return l[1]
	case api.OpIf:
		return l[2-args[0].N]
	}
	panic(op)
}

// towardZero returns the int that is left of a fraction without its digits behind the point.
func towardZero(x *big.Rat) *big.Int { return new(big.Int).Quo(x.Num(), x.Denom()) }

// nearest returns the int that is nearest to a fraction, and of two of them the even one.
func nearest(x *big.Rat) *big.Int {
	lower := new(big.Int).Div(x.Num(), x.Denom())
	upper := new(big.Int).Add(lower, big.NewInt(1))
	middle := new(big.Rat).Add(new(big.Rat).SetInt(lower), big.NewRat(1, 2))
	switch order := x.Cmp(middle); {
	case order < 0, order == 0 && lower.Bit(0) == 0:
		return lower
	}
	return upper
}

// applied is what Apply returns.
func applied(op int, args []api.Value) (api.Value, api.Errno) {
	var taken []int
	for _, one := range args {
		taken = append(taken, one.Type)
	}
	kind, ok := typing.Result(op, taken)
	if !ok {
		return api.Value{}, api.ErrType
	}
	for _, one := range args {
		if !isValue(one) {
			return api.Value{}, api.ErrArg
		}
	}
	x := exactly(op, args)
	if x == nil {
		return api.Value{}, api.ErrZero
	}
	rounded := nearest(x)
	if kind == api.TyNumber {
		rounded = towardZero(x)
	}
	v := api.Value{Type: kind, N: int(rounded.Int64())}
	if !rounded.IsInt64() || !isValue(v) {
		return api.Value{}, api.ErrOverflow
	}
	return v, api.OK
}

// fit is what Valid returns.
func fit(vars []api.Var, env []api.Value) bool {
	if len(vars) != len(env) {
		return false
	}
	for i := range vars {
		if env[i].Type != vars[i].Type || !isValue(env[i]) {
			return false
		}
	}
	return true
}

// evaluated is what Tree returns for an expression that has a type.
func evaluated(e api.Expr, values map[string]api.Value) (api.Value, api.Errno) {
	constants := map[int]int{api.OpNum: api.TyNumber, api.OpCash: api.TyAmount, api.OpRate: api.TyRate}
	switch {
	case constants[e.Op] != 0:
		return api.Value{Type: constants[e.Op], N: e.N}, api.OK
	case e.Op == api.OpVar:
		return values[e.S], api.OK
	}
	var l []api.Value
	for i, operand := range e.Args {
		// The first operand chooses the one of the others that is evaluated.
		if e.Op == api.OpIf && i > 0 && i != 2-l[0].N {
			continue
		}
		one, problem := evaluated(operand, values)
		if problem != api.OK {
			return api.Value{}, problem
		}
		l = append(l, one)
	}
	if e.Op == api.OpIf {
		return l[1], api.OK
	}
	return applied(e.Op, l)
}

// treeOf is what Tree returns.
func treeOf(e api.Expr, vars []api.Var, env []api.Value) (api.Value, api.Errno) {
	if problem := typing.Vars(vars); problem != api.OK {
		return api.Value{}, problem
	}
	if _, problem := typing.Of(e, vars); problem != api.OK {
		return api.Value{}, problem
	}
	if !fit(vars, env) {
		return api.Value{}, api.ErrArg
	}
	values := map[string]api.Value{}
	for i, v := range vars {
		values[v.Name] = env[i]
	}
	return evaluated(e, values)
}

// executed returns the result of valid code without a budget, and how many instructions lead to it, the one with the error included.
func executed(c api.Code, env []api.Value) (api.Value, int, api.Errno) {
	var stack []api.Value
	at, steps := 0, 0
	for at < len(c.Instrs) {
		i := c.Instrs[at]
		at++
		steps++
		top := len(stack) - 1
		switch i.Op {
		case api.InPush:
			stack = append(stack, api.Value{Type: i.A, N: i.N})
		case api.InLoad:
			stack = append(stack, env[i.A])
		case api.InOp:
			rest := len(stack) - arity(i.A)
			v, problem := applied(i.A, stack[rest:])
			if problem != api.OK {
				return api.Value{}, steps, problem
			}
			stack = append(stack[:rest:rest], v)
		case api.InJump:
			at = i.A
		case api.InFalse:
			if stack[top].N == 0 {
				at = i.A
			}
			stack = stack[:top]
		}
	}
	return stack[0], steps, api.OK
}

// runOf is what Run returns. A budget is exceeded exactly if it is less than the number of instructions.
func runOf(c api.Code, env []api.Value, fuel int) (api.Value, int, api.Errno) {
	if code.Validate(c) != api.OK {
		return api.Value{}, 0, api.ErrCode
	}
	if !fit(c.Vars, env) {
		return api.Value{}, 0, api.ErrArg
	}
	v, steps, problem := executed(c, env)
	if fuel < steps {
		return api.Value{}, 0, api.ErrFuel
	}
	if problem != api.OK {
		return api.Value{}, 0, problem
	}
	return v, fuel - steps, api.OK
}

// requires requires a result of Apply.
func requires(t *testing.T, op int, args []api.Value, want api.Value, expected api.Errno) {
	t.Helper()
	if v, problem := eval.Apply(op, args); v != want || problem != expected {
		t.Errorf("Apply(%d, %s) is %v, %d; want %v, %d", op, brief(args), v, problem, want, expected)
	}
}

// check compares Apply with the chapter.
func check(t *testing.T, op int, args []api.Value) {
	t.Helper()
	want, expected := applied(op, args)
	requires(t, op, args, want, expected)
}

// gives requires the result of an operator for values, all as text.
func gives(t *testing.T, op, args, want string) {
	t.Helper()
	requires(t, operators[op], values(args), value(want), api.OK)
	check(t, operators[op], values(args))
}

// refuses requires an error of Apply for an operator and values as text.
func refuses(t *testing.T, op, args string, want api.Errno) {
	t.Helper()
	requires(t, operators[op], values(args), api.Value{}, want)
	check(t, operators[op], values(args))
}

// checkRun compares Run with the chapter.
func checkRun(t *testing.T, c api.Code, env []api.Value, fuel int) {
	t.Helper()
	want, rest, expected := runOf(c, env, fuel)
	v, left, problem := eval.Run(c, env, fuel)
	if v != want || left != rest || problem != expected {
		t.Errorf("Run(%s, %s, %d) is %v, %d, %d; want %v, %d, %d", brief(c), brief(env), fuel, v, left, problem, want, rest, expected)
	}
}

// checkTree compares Tree with the chapter, and with the code of the expression.
func checkTree(t *testing.T, e api.Expr, vars []api.Var, env []api.Value) {
	t.Helper()
	want, expected := treeOf(e, vars, env)
	v, problem := eval.Tree(e, vars, env)
	if v != want || problem != expected {
		t.Errorf("Tree(%s, %s, %s) is %v, %d; want %v, %d", show(e), brief(vars), brief(env), v, problem, want, expected)
	}
	c, refused := code.Compile(e, vars)
	if refused != api.OK {
		return
	}
	kind, _ := typing.Of(e, vars)
	if problem == api.OK && (v.Type != kind || !isValue(v)) {
		t.Errorf("Tree(%s, %s, %s) is %v, which is no value of the type %d", show(e), brief(vars), brief(env), v, kind)
	}
	for _, fuel := range []int{len(c.Instrs), len(c.Instrs) + 1, 1 << 40} {
		other, _, differs := eval.Run(c, env, fuel)
		if other != v || differs != problem {
			t.Errorf("Run of the code of %s with %s is %v, %d; Tree is %v, %d", show(e), brief(env), other, differs, v, problem)
		}
		checkRun(t, c, env, fuel)
	}
}

// yields requires the value of an expression with values of the common variables, all as text.
func yields(t *testing.T, s, env, want string) {
	t.Helper()
	if v, problem := eval.Tree(read(s), common(), with(env)); v != value(want) || problem != api.OK {
		t.Errorf("Tree(%s, %s) is %v, %d; want %s", s, env, v, problem, want)
	}
	checkTree(t, read(s), common(), with(env))
}

// fails requires an error of Tree for an expression with values of the common variables.
func fails(t *testing.T, s, env string, want api.Errno) {
	t.Helper()
	if v, problem := eval.Tree(read(s), common(), with(env)); v != (api.Value{}) || problem != want {
		t.Errorf("Tree(%s, %s) is %v, %d; want %d", s, env, v, problem, want)
	}
	checkTree(t, read(s), common(), with(env))
}
