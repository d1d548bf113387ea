package typing_test

import (
	"fmt"
	"math/rand/v2"
	"regexp"
	"slices"
	"strings"
	"testing"

	"corebank/api"
	"corebank/expr"
	"corebank/token"
	"corebank/typing"
)

// seeded gives the same numbers in every run.
func seeded() *rand.Rand { return rand.New(rand.NewPCG(11, 11)) }

// types are the five types, by their names in the chapter.
var types = map[string]int{"number": api.TyNumber, "amount": api.TyAmount, "rate": api.TyRate, "day": api.TyDay, "bool": api.TyBool}

// kinds are the types by their numbers.
var kinds = []int{1, 2, 3, 4, 5}

// composed are the operators with operands.
var composed = []int{api.OpAdd, api.OpSub, api.OpMul, api.OpDiv, api.OpNeg, api.OpEq, api.OpNe, api.OpLt, api.OpLe, api.OpAnd, api.OpOr, api.OpNot, api.OpMin, api.OpMax, api.OpIf}

// words are the reserved words of chapter 9.
var words = strings.Split("product, currency, calendar, from, every, overdraft, tax, credit, debit, marginal, whole, act360, act365, actual, thirty, down, up, floor, ceil, half_up, half_even, keep, drop, fee, limit, when, amount_of, single, daily, monthly, month, return, close, event, if, then, else, and, or, not, min, max", ", ")

// named is the form of names.
var named = regexp.MustCompile(`^[a-z][a-z0-9_]{0,15}\z`)

// node returns an expression with operands.
func node(op int, operands ...api.Expr) api.Expr { return api.Expr{Op: op, Args: operands} }

// num, cash, rate and name return expressions of one node.
func num(n int) api.Expr     { return api.Expr{Op: api.OpNum, N: n} }
func cash(n int) api.Expr    { return api.Expr{Op: api.OpCash, N: n} }
func rate(n int) api.Expr    { return api.Expr{Op: api.OpRate, N: n} }
func name(s string) api.Expr { return api.Expr{Op: api.OpVar, S: s} }

// read returns the expression with a text.
func read(s string) api.Expr {
	l, _, problem := token.Tokenize(s)
	if problem != api.OK {
		panic(fmt.Sprintf("Tokenize(%q) is %d", s, problem))
	}
	e, next, problem := expr.Parse(l, 0)
	if problem != api.OK || next != len(l) {
		panic(fmt.Sprintf("Parse(%q) is %d, %d", s, next, problem))
	}
	return e
}

// show returns the text of a valid expression, and the fields of another one.
func show(e api.Expr) string {
	if l, problem := expr.Tokens(e); problem == api.OK {
		s, _ := token.Join(l)
		return s
	}
	return brief(e)
}

// brief returns the beginning of a value as text.
func brief(v any) string {
	s := fmt.Sprint(v)
	return s[:min(len(s), 300)]
}

// declare returns variables that are listed as "number n, day first".
func declare(s string) []api.Var {
	var vars []api.Var
	for field := range strings.SplitSeq(s, ",") {
		if parts := strings.Fields(field); len(parts) == 2 {
			if types[parts[0]] == 0 {
				panic(s)
			}
			vars = append(vars, api.Var{Name: parts[1], Type: types[parts[0]]})
		}
	}
	return vars
}

// common are variables of each type.
func common() []api.Var {
	return declare("number n, number count, amount a, amount balance, rate r, rate base, day d, day first, bool b, bool active")
}

// arity returns the number of operands of an operator.
func arity(op int) int {
	switch op {
	case api.OpNum, api.OpCash, api.OpRate, api.OpVar:
		return 0
	case api.OpNeg, api.OpNot:
		return 1
	case api.OpIf:
		return 3
	}
	return 2
}

// result is what Result returns, by the rows of the chapter's table from the first one; 0 stands for false.
func result(op int, operands []int) int {
	for _, one := range operands {
		if !slices.Contains(kinds, one) {
			return 0
		}
	}
	if !slices.Contains(composed, op) || len(operands) != arity(op) {
		return 0
	}
	first, last := operands[0], operands[len(operands)-1]
	is := func(want ...int) bool { return slices.Equal(operands, want) }
	quantity := first == api.TyNumber || first == api.TyAmount || first == api.TyRate
	switch {
	case (op == api.OpAdd || op == api.OpSub) && quantity && first == last:
		return first
	case (op == api.OpAdd || op == api.OpSub) && is(api.TyDay, api.TyNumber):
		return api.TyDay
	case op == api.OpSub && is(api.TyDay, api.TyDay):
		return api.TyNumber
	case op == api.OpMul && is(api.TyNumber, api.TyNumber):
		return api.TyNumber
	case op == api.OpMul && first == api.TyNumber && (last == api.TyAmount || last == api.TyRate):
		return last
	case op == api.OpMul && last == api.TyNumber && (first == api.TyAmount || first == api.TyRate):
		return first
	case op == api.OpMul && (is(api.TyAmount, api.TyRate) || is(api.TyRate, api.TyAmount)):
		return api.TyAmount
	case op == api.OpDiv && quantity && last == api.TyNumber:
		return first
	case op == api.OpDiv && is(api.TyAmount, api.TyAmount):
		return api.TyNumber
	case op == api.OpNeg && quantity:
		return first
	case (op == api.OpEq || op == api.OpNe) && first == last:
		return api.TyBool
	case (op == api.OpLt || op == api.OpLe) && first == last && first != api.TyBool:
		return api.TyBool
	case (op == api.OpAnd || op == api.OpOr) && is(api.TyBool, api.TyBool):
		return api.TyBool
	case op == api.OpNot && is(api.TyBool):
		return api.TyBool
	case (op == api.OpMin || op == api.OpMax) && first == last && first != api.TyBool:
		return first
	case op == api.OpIf && first == api.TyBool && operands[1] == last:
		return last
	}
	return 0
}

// evaluation lists the nodes of an expression in the order of evaluation.
func evaluation(e api.Expr) []api.Expr {
	var l []api.Expr
	for _, operand := range e.Args {
		l = append(l, evaluation(operand)...)
	}
	return append(l, e)
}

// typed is what Of returns: the nodes are evaluated one by one, with a stack of types.
func typed(e api.Expr, vars []api.Var) (int, api.Errno) {
	if problem := expr.Validate(e); problem != api.OK {
		return 0, problem
	}
	declared := map[string]int{}
	for _, v := range slices.Backward(vars) {
		declared[v.Name] = v.Type
	}
	var stack []int
	for _, one := range evaluation(e) {
		found, known := 0, true
		rest := len(stack) - arity(one.Op)
		switch one.Op {
		case api.OpNum:
			found = api.TyNumber
		case api.OpCash:
			found = api.TyAmount
		case api.OpRate:
			found = api.TyRate
		case api.OpVar:
			found, known = declared[one.S]
		default:
			found = result(one.Op, stack[rest:])
		}
		if !known {
			return 0, api.ErrName
		}
		if !slices.Contains(kinds, found) {
			return 0, api.ErrType
		}
		stack = append(stack[:rest], found)
	}
	return stack[0], api.OK
}

// listed is what Vars returns.
func listed(l []api.Var) api.Errno {
	if len(l) > 64 {
		return api.ErrLimit
	}
	before := map[string]bool{}
	for _, v := range l {
		switch {
		case !named.MatchString(v.Name) || slices.Contains(words, v.Name):
			return api.ErrName
		case before[v.Name]:
			return api.ErrDuplicate
		case !slices.Contains(kinds, v.Type):
			return api.ErrType
		}
		before[v.Name] = true
	}
	return api.OK
}

// checkResult compares Result with the chapter.
func checkResult(t *testing.T, op int, operands []int) {
	t.Helper()
	want := result(op, operands)
	if found, ok := typing.Result(op, operands); found != want || ok != (want != 0) {
		t.Errorf("Result(%d, %v) is %d, %t; want %d", op, operands, found, ok, want)
	}
}

// checkOf compares Of and Check with the chapter.
func checkOf(t *testing.T, e api.Expr, vars []api.Var) {
	t.Helper()
	want, expected := typed(e, vars)
	requires(t, e, vars, want, expected)
}

// requires requires a result of Of, and the results of Check that belong to it.
func requires(t *testing.T, e api.Expr, vars []api.Var, want int, expected api.Errno) {
	t.Helper()
	if found, problem := typing.Of(e, vars); found != want || problem != expected {
		t.Errorf("Of(%s, %s) is %d, %d; want %d, %d", show(e), brief(vars), found, problem, want, expected)
	}
	for wanted := -1; wanted <= 6; wanted++ {
		checked := expected
		if checked == api.OK && wanted != want {
			checked = api.ErrType
		}
		if problem := typing.Check(e, vars, wanted); problem != checked {
			t.Errorf("Check(%s, %s, %d) is %d; want %d", show(e), brief(vars), wanted, problem, checked)
		}
	}
}

// checkVars compares Vars with the chapter.
func checkVars(t *testing.T, l []api.Var) {
	t.Helper()
	if problem, want := typing.Vars(l), listed(l); problem != want {
		t.Errorf("Vars(%s) is %d; want %d", brief(l), problem, want)
	}
}

// row is an operator with types of operands that it takes.
type row struct {
	op       int
	operands []int
}

// rows returns the rows that lead to a type.
func rows(kind int) []row {
	var l []row
	for _, op := range composed {
		for _, operands := range lists(kinds, arity(op)) {
			if result(op, operands) == kind {
				l = append(l, row{op, operands})
			}
		}
	}
	return l
}

// lists returns all lists of a number of elements.
func lists(elements []int, length int) [][]int {
	l := [][]int{nil}
	for range length {
		var longer [][]int
		for _, list := range l {
			for _, one := range elements {
				longer = append(longer, append(slices.Clone(list), one))
			}
		}
		l = longer
	}
	return l
}

// leaves are expressions of one node, by their types.
func leaves(kind int) []api.Expr {
	var l []api.Expr
	switch kind {
	case api.TyNumber:
		l = []api.Expr{num(0), num(7)}
	case api.TyAmount:
		l = []api.Expr{cash(0), cash(api.MaxAmount)}
	case api.TyRate:
		l = []api.Expr{rate(0), rate(api.MaxPpm)}
	}
	for _, v := range common() {
		if v.Type == kind {
			l = append(l, name(v.Name))
		}
	}
	return l
}

// maker makes expressions with types, picked at random.
type maker struct {
	random *rand.Rand
	rows   [6][]row
	leaves [6][]api.Expr
}

// newMaker returns a maker.
func newMaker() *maker {
	m := &maker{random: seeded()}
	for _, kind := range kinds {
		m.rows[kind], m.leaves[kind] = rows(kind), leaves(kind)
	}
	return m
}

// grown returns an expression of a type with at most depth levels.
func (m *maker) grown(kind, depth int) api.Expr {
	if depth == 1 || m.random.IntN(5) == 0 {
		return m.leaves[kind][m.random.IntN(len(m.leaves[kind]))]
	}
	chosen := m.rows[kind][m.random.IntN(len(m.rows[kind]))]
	e := api.Expr{Op: chosen.op}
	for _, operand := range chosen.operands {
		e.Args = append(e.Args, m.grown(operand, depth-1))
	}
	return e
}

// valid returns a valid expression and its type.
func (m *maker) valid() (api.Expr, int) {
	for {
		kind := kinds[m.random.IntN(len(kinds))]
		if e := m.grown(kind, 1+m.random.IntN(api.MaxDepth)); expr.Nodes(e) <= api.MaxNodes {
			return e, kind
		}
	}
}

// changed returns a copy of an expression in which each node is replaced, its operands first. The nodes are counted in the order of evaluation.
func changed(e api.Expr, change func(at int, e api.Expr) api.Expr) api.Expr {
	at := -1
	var visit func(api.Expr) api.Expr
	visit = func(e api.Expr) api.Expr {
		e.Args = slices.Clone(e.Args)
		for i := range e.Args {
			e.Args[i] = visit(e.Args[i])
		}
		at++
		return change(at, e)
	}
	return visit(e)
}
