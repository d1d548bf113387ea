package code_test

import (
	"fmt"
	"math/rand/v2"
	"slices"
	"strconv"
	"strings"
	"testing"

	"corebank/api"
	"corebank/code"
	"corebank/expr"
	"corebank/token"
	"corebank/typing"
)

// seeded gives the same numbers in every run.
func seeded() *rand.Rand { return rand.New(rand.NewPCG(12, 12)) }

// types are the five types, by their names.
var types = map[string]int{"number": api.TyNumber, "amount": api.TyAmount, "rate": api.TyRate, "day": api.TyDay, "bool": api.TyBool}

// kinds are the types by their numbers.
var kinds = []int{1, 2, 3, 4, 5}

// names are the names of the operators of InOp in the chapter.
var names = map[string]int{
	"add": api.OpAdd, "sub": api.OpSub, "mul": api.OpMul, "div": api.OpDiv, "neg": api.OpNeg, "eq": api.OpEq, "ne": api.OpNe, "lt": api.OpLt, "le": api.OpLe,
	"and": api.OpAnd, "or": api.OpOr, "not": api.OpNot, "min": api.OpMin, "max": api.OpMax,
}

// taken lists, for each operator of InOp, the types of the operands that it takes and of its result.
const taken = `
add: number number number, amount amount amount, rate rate rate, day number day
sub: number number number, amount amount amount, rate rate rate, day number day, day day number
mul: number number number, number amount amount, amount number amount, number rate rate, rate number rate, amount rate amount, rate amount amount
div: number number number, amount number amount, rate number rate, amount amount number
neg: number number, amount amount, rate rate
eq: number number bool, amount amount bool, rate rate bool, day day bool, bool bool bool
ne: number number bool, amount amount bool, rate rate bool, day day bool, bool bool bool
lt: number number bool, amount amount bool, rate rate bool, day day bool
le: number number bool, amount amount bool, rate rate bool, day day bool
and: bool bool bool
or: bool bool bool
not: bool bool
min: number number number, amount amount amount, rate rate rate, day day day
max: number number number, amount amount amount, rate rate rate, day day day
`

// row is an operator of InOp with operands that it takes.
type row struct {
	name     string
	operands []int
	result   int
}

// rows returns the rows of the list of operators.
func rows() []row {
	var l []row
	for line := range strings.Lines(strings.TrimSpace(taken)) {
		name, rest, _ := strings.Cut(line, ":")
		for part := range strings.SplitSeq(rest, ",") {
			var found []int
			for _, word := range strings.Fields(part) {
				found = append(found, types[word])
			}
			last := len(found) - 1
			l = append(l, row{name, found[:last], found[last]})
		}
	}
	return l
}

// declare returns variables that are listed as "number n, day first".
func declare(s string) []api.Var {
	var vars []api.Var
	for field := range strings.SplitSeq(s, ",") {
		if parts := strings.Fields(field); len(parts) == 2 {
			vars = append(vars, api.Var{Name: parts[1], Type: types[parts[0]]})
		}
	}
	return vars
}

// common are variables of each type.
func common() []api.Var {
	return declare("number n, number count, amount a, amount balance, rate r, rate base, day d, day first, bool b, bool active")
}

// numbered returns a number of variables with different names.
func numbered(count int) []api.Var {
	var l []api.Var
	for i := range count {
		l = append(l, api.Var{Name: fmt.Sprint("v", i), Type: 1 + i%5})
	}
	return l
}

// node returns an expression with operands.
func node(op int, operands ...api.Expr) api.Expr { return api.Expr{Op: op, Args: operands} }

// num, cash, rate and name return expressions of one node.
func num(n int) api.Expr     { return api.Expr{Op: api.OpNum, N: n} }
func cash(n int) api.Expr    { return api.Expr{Op: api.OpCash, N: n} }
func rate(n int) api.Expr    { return api.Expr{Op: api.OpRate, N: n} }
func name(s string) api.Expr { return api.Expr{Op: api.OpVar, S: s} }

// read returns the expression with a text.
func read(s string) api.Expr {
	l, _, problem := token.Tokenize(s)
	if problem != api.OK {
		panic(fmt.Sprintf("Tokenize(%q) is %d", s, problem))
	}
	e, next, problem := expr.Parse(l, 0)
	if problem != api.OK || next != len(l) {
		panic(fmt.Sprintf("Parse(%q) is %d, %d", s, next, problem))
	}
	return e
}

// show returns the text of a valid expression, and the fields of another one, unless it is too large.
func show(e api.Expr) string {
	if expr.Validate(e) == api.ErrLimit {
		return "(a large expression)"
	}
	if l, problem := expr.Tokens(e); problem == api.OK {
		s, _ := token.Join(l)
		return s
	}
	return brief(e)
}

// brief returns the beginning of a value as text.
func brief(v any) string {
	s := fmt.Sprint(v)
	return s[:min(len(s), 600)]
}

// instruction returns the instruction with a text.
func instruction(line string, vars []api.Var) api.Instr {
	words := strings.Split(line, " ")
	number := func(i int) int {
		n, err := strconv.Atoi(words[i])
		if err != nil {
			panic(line)
		}
		return n
	}
	switch {
	case words[0] == "push" && len(words) == 3 && types[words[1]] != 0:
		return api.Instr{Op: api.InPush, A: types[words[1]], N: number(2)}
	case words[0] == "load" && len(words) == 2:
		at := slices.IndexFunc(vars, func(v api.Var) bool { return v.Name == words[1] })
		return api.Instr{Op: api.InLoad, A: at}
	case words[0] == "jump" && len(words) == 2:
		return api.Instr{Op: api.InJump, A: number(1)}
	case words[0] == "false" && len(words) == 2:
		return api.Instr{Op: api.InFalse, A: number(1)}
	case names[line] != 0:
		return api.Instr{Op: api.InOp, A: names[line]}
	}
	panic(line)
}

// assemble returns the instructions that are listed as "push number 5, lt".
func assemble(s string, vars []api.Var) []api.Instr {
	var l []api.Instr
	for part := range strings.SplitSeq(s, ",") {
		if line := strings.TrimSpace(part); line != "" {
			l = append(l, instruction(line, vars))
		}
	}
	return l
}

// made returns code with the common variables.
func made(kind int, s string) api.Code {
	return api.Code{Type: kind, Vars: common(), Instrs: assemble(s, common())}
}

// lengthOf returns the number of instructions of an expression.
func lengthOf(e api.Expr) int {
	length := 1
	if e.Op == api.OpIf {
		length = 2
	}
	for _, operand := range e.Args {
		length += lengthOf(operand)
	}
	return length
}

// instrsOf returns the instructions of an expression of which the first one has the index at. The targets of jumps follow from the lengths.
func instrsOf(e api.Expr, vars []api.Var, at int) []api.Instr {
	one := func(op, a, n int) []api.Instr { return []api.Instr{{Op: op, A: a, N: n}} }
	switch e.Op {
	case api.OpNum, api.OpCash, api.OpRate:
		return one(api.InPush, map[int]int{api.OpNum: api.TyNumber, api.OpCash: api.TyAmount, api.OpRate: api.TyRate}[e.Op], e.N)
	case api.OpVar:
		for i := range vars {
			if vars[i].Name == e.S {
				return one(api.InLoad, i, 0)
			}
		}
		panic(e.S)
	case api.OpIf:
		second := at + lengthOf(e.Args[0]) + 1
		third := second + lengthOf(e.Args[1]) + 1
		end := third + lengthOf(e.Args[2])
		return slices.Concat(instrsOf(e.Args[0], vars, at), one(api.InFalse, third, 0), instrsOf(e.Args[1], vars, second), one(api.InJump, end, 0), instrsOf(e.Args[2], vars, third))
	}
	var l []api.Instr
	for _, operand := range e.Args {
		l = append(l, instrsOf(operand, vars, at+len(l))...)
	}
	return append(l, one(api.InOp, e.Op, 0)...)
}

// compiled is what Compile returns.
func compiled(e api.Expr, vars []api.Var) (api.Code, api.Errno) {
	if problem := typing.Vars(vars); problem != api.OK {
		return api.Code{}, problem
	}
	kind, problem := typing.Of(e, vars)
	if problem != api.OK {
		return api.Code{}, problem
	}
	return api.Code{Type: kind, Vars: vars, Instrs: instrsOf(e, vars, 0)}, api.OK
}

// restored returns the expression that compiled code stands for, or the part of it from a first instruction up to an end.
func restored(c api.Code, first, end int) api.Expr {
	var stack []api.Expr
	take := func(count int) []api.Expr {
		operands := slices.Clone(stack[len(stack)-count:])
		stack = stack[:len(stack)-count]
		return operands
	}
	for at := first; at < end; at++ {
		i := c.Instrs[at]
		e := api.Expr{}
		switch i.Op {
		case api.InPush:
			e = api.Expr{Op: map[int]int{api.TyNumber: api.OpNum, api.TyAmount: api.OpCash, api.TyRate: api.OpRate}[i.A], N: i.N}
		case api.InLoad:
			e = name(c.Vars[i.A].Name)
		case api.InOp:
			e = api.Expr{Op: i.A, Args: take(arity(i.A))}
		case api.InFalse:
			behind := c.Instrs[i.A-1].A
			e = node(api.OpIf, take(1)[0], restored(c, at+1, i.A-1), restored(c, i.A, behind))
			at = behind - 1
		default:
			panic(fmt.Sprint("a jump at ", at))
		}
		stack = append(stack, e)
	}
	if len(stack) != 1 {
		panic(fmt.Sprint(len(stack), " expressions"))
	}
	return stack[0]
}

// arity returns the number of operands of an operator.
func arity(op int) int {
	switch op {
	case api.OpNum, api.OpCash, api.OpRate, api.OpVar:
		return 0
	case api.OpNeg, api.OpNot:
		return 1
	case api.OpIf:
		return 3
	}
	return 2
}

// permitted reports whether an instruction with the index at has one of the chapter's forms.
func permitted(c api.Code, at int) bool {
	i := c.Instrs[at]
	ahead := at < i.A && i.A <= len(c.Instrs)
	for _, form := range []bool{
		i.Op == 1 && i.A == 1 && i.N >= 0,
		i.Op == 1 && i.A == 2 && i.N >= 0 && i.N <= 1000000000000,
		i.Op == 1 && i.A == 3 && i.N >= 0 && i.N <= 1000000,
		i.Op == 2 && i.N == 0 && i.A >= 0 && i.A < len(c.Vars),
		i.Op == 3 && i.N == 0 && i.A >= 5 && i.A <= 18,
		i.Op == 4 && i.N == 0 && ahead,
		i.Op == 5 && i.N == 0 && ahead,
	} {
		if form {
			return true
		}
	}
	return false
}

// after returns the stack that an instruction leaves, as a text with a digit for each type.
func after(c api.Code, i api.Instr, before string) (string, bool) {
	count := map[int]int{api.InFalse: 1}[i.Op]
	if i.Op == api.InOp {
		count = arity(i.A)
	}
	if count > len(before) {
		return "", false
	}
	rest, operands := before[:len(before)-count], before[len(before)-count:]
	switch i.Op {
	case api.InPush:
		return rest + strconv.Itoa(i.A), true
	case api.InLoad:
		return rest + strconv.Itoa(c.Vars[i.A].Type), true
	case api.InFalse:
		return rest, operands == "5"
	case api.InOp:
		var l []int
		for _, digit := range operands {
			l = append(l, int(digit-'0'))
		}
		result, ok := typing.Result(i.A, l)
		return rest + strconv.Itoa(result), ok
	}
	return rest, true
}

// stacksBefore returns the different stacks before an index, found by looking back at all instructions that lead there.
func stacksBefore(c api.Code, at int, leaves []string) []string {
	var l []string
	if at == 0 {
		l = append(l, "")
	}
	for from := range at {
		i := c.Instrs[from]
		follows := from == at-1 && i.Op != api.InJump
		jumped := (i.Op == api.InJump || i.Op == api.InFalse) && i.A == at
		if follows || jumped {
			l = append(l, leaves[from])
		}
	}
	slices.Sort(l)
	return slices.Compact(l)
}

// examined is what Depth and Validate return.
func examined(c api.Code) (int, api.Errno) {
	if len(c.Instrs) > 128 {
		return 0, api.ErrLimit
	}
	if problem := typing.Vars(c.Vars); problem != api.OK {
		return 0, problem
	}
	var leaves []string
	deepest := 0
	for at, i := range c.Instrs {
		before := stacksBefore(c, at, leaves)
		if len(before) != 1 || !permitted(c, at) {
			return 0, api.ErrCode
		}
		left, ok := after(c, i, before[0])
		if !ok {
			return 0, api.ErrCode
		}
		if len(left) > 16 {
			return 0, api.ErrLimit
		}
		leaves, deepest = append(leaves, left), max(deepest, len(before[0]))
	}
	last := stacksBefore(c, len(c.Instrs), leaves)
	if len(last) != 1 || len(last[0]) != 1 || last[0] != strconv.Itoa(c.Type) {
		return 0, api.ErrCode
	}
	return max(deepest, 1), api.OK
}

// requires requires results of Validate, Depth and Print. Only valid code has a depth and a text; its instructions are restored from its text.
func requires(t *testing.T, c api.Code, depth int, want api.Errno) {
	t.Helper()
	if problem := code.Validate(c); problem != want {
		t.Errorf("Validate(%s) is %d; want %d", brief(c), problem, want)
	}
	if found := code.Depth(c); found != depth {
		t.Errorf("Depth(%s) is %d; want %d", brief(c), found, depth)
	}
	text := code.Print(c)
	if want != api.OK {
		if text != "" {
			t.Errorf("Print(%s) is %q", brief(c), text)
		}
		return
	}
	var listed []api.Instr
	for line := range strings.Lines(text) {
		if !strings.HasSuffix(line, "\n") {
			t.Errorf("Print(%s) is %q", brief(c), text)
		}
		listed = append(listed, instruction(strings.TrimSuffix(line, "\n"), c.Vars))
	}
	if !slices.Equal(listed, c.Instrs) {
		t.Errorf("Print(%s) is %q", brief(c), text)
	}
}

// check compares Validate, Depth and Print with the chapter.
func check(t *testing.T, c api.Code) {
	t.Helper()
	depth, problem := examined(c)
	requires(t, c, depth, problem)
}

// refused requires an error of Validate.
func refused(t *testing.T, c api.Code, want api.Errno) {
	t.Helper()
	if _, expected := examined(c); expected != want {
		t.Errorf("%s leads to %d; want %d", brief(c), expected, want)
	}
	requires(t, c, 0, want)
}

// accepted requires that code is valid and has a depth.
func accepted(t *testing.T, c api.Code, depth int) {
	t.Helper()
	if found, expected := examined(c); found != depth || expected != api.OK {
		t.Errorf("%s leads to %d, %d; want %d", brief(c), found, expected, depth)
	}
	requires(t, c, depth, api.OK)
}

// checkCompile compares Compile with the chapter, and examines the code.
func checkCompile(t *testing.T, e api.Expr, vars []api.Var) {
	t.Helper()
	want, expected := compiled(e, vars)
	c, problem := code.Compile(e, vars)
	if problem != expected || c.Type != want.Type || !slices.Equal(c.Vars, want.Vars) || !slices.Equal(c.Instrs, want.Instrs) {
		t.Errorf("Compile(%s, %s) is %v, %d; want %v, %d", show(e), brief(vars), c, problem, want, expected)
		return
	}
	if problem != api.OK {
		return
	}
	check(t, c)
	nodes := expr.Nodes(e)
	if code.Validate(c) != api.OK || len(c.Instrs) < nodes || len(c.Instrs) > 2*nodes || len(c.Instrs) > api.MaxCode {
		t.Errorf("Compile(%s, %s) is %v with %d instructions for %d nodes", show(e), brief(vars), c, len(c.Instrs), nodes)
	}
	if other := restored(c, 0, len(c.Instrs)); !expr.Same(e, other) {
		t.Errorf("Compile(%s, %s) is the code of %s", show(e), brief(vars), show(other))
	}
}

// lists requires the text of the code of an expression with the common variables, its type and its depth.
func lists(t *testing.T, s string, kind, depth int, lines string) {
	t.Helper()
	c, problem := code.Compile(read(s), common())
	want := made(kind, lines)
	if problem != api.OK || !code.Same(c, want) || c.Type != kind || !slices.Equal(c.Vars, want.Vars) || !slices.Equal(c.Instrs, want.Instrs) {
		t.Errorf("Compile(%s) is %v, %d; want %v", s, c, problem, want)
	}
	accepted(t, want, depth)
	var text string
	for part := range strings.SplitSeq(lines, ",") {
		text += strings.TrimSpace(part) + "\n"
	}
	if found := code.Print(c); found != text {
		t.Errorf("Print of %s is %q; want %q", s, found, text)
	}
	checkCompile(t, read(s), common())
}
