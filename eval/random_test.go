package eval_test

import (
	"fmt"
	"math"
	"math/rand/v2"
	"slices"
	"testing"

	"corebank/api"
	"corebank/code"
	"corebank/eval"
	"corebank/expr"
	"corebank/typing"
)

// row is an operator with types of operands that it takes.
type row struct {
	op       int
	operands []int
}

// maker makes expressions, values and code, picked at random.
type maker struct {
	random *rand.Rand
	rows   [6][]row
}

// newMaker returns a maker.
func newMaker() *maker {
	m := &maker{random: seeded()}
	for op := api.OpAdd; op <= api.OpIf; op++ {
		for mix := range 125 {
			operands := []int{1 + mix%5, 1 + mix/5%5, 1 + mix/25}[:arity(op)]
			kind, ok := typing.Result(op, operands)
			if ok && !slices.ContainsFunc(m.rows[kind], func(one row) bool { return one.op == op && slices.Equal(one.operands, operands) }) {
				m.rows[kind] = append(m.rows[kind], row{op, operands})
			}
		}
	}
	return m
}

// leaf returns a constant or a variable of a type.
func (m *maker) leaf(kind int) api.Expr {
	constants := map[int][]api.Expr{
		api.TyNumber: {num(0), num(1), num(2), num(3), num(1000), num(math.MaxInt)},
		api.TyAmount: {cash(0), cash(1), cash(3), cash(50), cash(api.MaxAmount)},
		api.TyRate:   {rate(0), rate(1), rate(15000), rate(500000), rate(api.MaxPpm)},
	}[kind]
	if len(constants) > 0 && m.random.IntN(3) == 0 {
		return constants[m.random.IntN(len(constants))]
	}
	return name(common()[2*kind-2+m.random.IntN(2)].Name)
}

// grown returns an expression of a type with at most depth levels.
func (m *maker) grown(kind, depth int) api.Expr {
	if depth == 1 || m.random.IntN(6) == 0 {
		return m.leaf(kind)
	}
	chosen := m.rows[kind][m.random.IntN(len(m.rows[kind]))]
	if m.random.IntN(4) == 0 {
		chosen = row{api.OpIf, []int{api.TyBool, kind, kind}}
	}
	e := api.Expr{Op: chosen.op}
	for _, operand := range chosen.operands {
		e.Args = append(e.Args, m.grown(operand, depth-1))
	}
	return e
}

// expression returns a valid expression with a type.
func (m *maker) expression() api.Expr {
	for {
		e := m.grown(kinds[m.random.IntN(len(kinds))], 1+m.random.IntN(api.MaxDepth))
		if expr.Nodes(e) <= api.MaxNodes {
			return e
		}
	}
}

// env returns values of the common variables, most of which are small.
func (m *maker) env() []api.Value {
	var env []api.Value
	for _, v := range common() {
		n := m.random.IntN(21) - 10
		if v.Type == api.TyRate {
			n *= 50000
		}
		if m.random.IntN(8) == 0 {
			some := []int{least[v.Type-1], greatest[v.Type-1], 0, 1, greatest[v.Type-1] / 2}
			n = some[m.random.IntN(len(some))]
		}
		env = append(env, api.Value{Type: v.Type, N: min(max(n, least[v.Type-1]), greatest[v.Type-1])})
	}
	return env
}

// damaged returns code that differs in a few places.
func (m *maker) damaged(c api.Code) api.Code {
	c.Vars, c.Instrs = slices.Clone(c.Vars), slices.Clone(c.Instrs)
	for range 1 + m.random.IntN(2) {
		at := m.random.IntN(len(c.Instrs))
		i := &c.Instrs[at]
		switch {
		case m.random.IntN(20) == 0:
			c.Type = 1 + m.random.IntN(5)
		case m.random.IntN(20) == 0:
			c.Vars[m.random.IntN(len(c.Vars))].Type = m.random.IntN(7)
		case i.Op == api.InOp:
			i.A = api.OpAdd + m.random.IntN(14)
		case i.Op == api.InLoad:
			i.A = m.random.IntN(10)
		case i.Op == api.InPush:
			i.N = m.random.IntN(100)
		default:
			i.A = at + 1 + m.random.IntN(len(c.Instrs)-at)
		}
	}
	return c
}

// P13.2, P13.3, P13.5, P13.6: expressions as trees and compiled, with values, budgets, and code that differs.
func TestPickedAtRandom(t *testing.T) {
	m := newMaker()
	counts, others := map[api.Errno]int{}, map[api.Errno]int{}
	for range 15000 {
		e, env := m.expression(), m.env()
		checkTree(t, e, common(), env)
		_, problem := eval.Tree(e, common(), env)
		counts[problem]++
		c, refused := code.Compile(e, common())
		if refused != api.OK {
			t.Fatalf("Compile(%s) is %d", show(e), refused)
		}
		checkRun(t, c, env, m.random.IntN(len(c.Instrs)+3)-1)
		other := m.damaged(c)
		for range m.random.IntN(8) {
			// Most of it is not valid, which other tests are about.
			if code.Validate(other) == api.OK {
				break
			}
			other = m.damaged(c)
		}
		for _, fuel := range []int{m.random.IntN(len(c.Instrs) + 3), 200} {
			checkRun(t, other, env, fuel)
			_, _, problem := eval.Run(other, env, fuel)
			others[problem]++
		}
	}
	for _, problem := range []api.Errno{api.OK, api.ErrZero, api.ErrOverflow} {
		if counts[problem] < 300 || others[problem] < 300 {
			t.Errorf("the errors are %v and %v", counts, others)
		}
	}
	for _, problem := range []api.Errno{api.ErrFuel, api.ErrCode, api.ErrArg} {
		if others[problem] < 300 {
			t.Errorf("the errors are %v", others)
		}
	}
}

// P13.7: a greater budget changes nothing but what is left.
func TestGreaterBudget(t *testing.T) {
	m := newMaker()
	for range 3000 {
		c, _ := code.Compile(m.expression(), common())
		env := m.env()
		want, left, expected := eval.Run(c, env, len(c.Instrs))
		for fuel := len(c.Instrs); fuel < len(c.Instrs)+20; fuel++ {
			rest := left + fuel - len(c.Instrs)
			if expected != api.OK {
				rest = 0
			}
			if v, found, problem := eval.Run(c, env, fuel); v != want || found != rest || problem != expected {
				t.Errorf("Run(%s, %s, %d) is %v, %d, %d; want %v, %d, %d", brief(c), brief(env), fuel, v, found, problem, want, rest, expected)
			}
		}
		// From the first budget that suffices on, all suffice.
		suffices := false
		for fuel := range len(c.Instrs) {
			v, _, problem := eval.Run(c, env, fuel)
			if suffices = suffices || problem != api.ErrFuel; suffices && (v != want || problem != expected) {
				t.Errorf("Run(%s, %s, %d) is %v, %d; want %v, %d", brief(c), brief(env), fuel, v, problem, want, expected)
			}
		}
	}
}

// P13.6: what Apply returns is a value of the type of typing.Result.
func TestResultsAreValues(t *testing.T) {
	m := newMaker()
	for kind, rows := range m.rows {
		for _, one := range rows {
			for range 300 {
				var args []api.Value
				for _, operand := range one.operands {
					some := edges(operand)
					args = append(args, some[m.random.IntN(len(some))])
				}
				check(t, one.op, args)
				if v, problem := eval.Apply(one.op, args); problem == api.OK && (v.Type != kind || !isValue(v)) {
					t.Errorf("Apply(%d, %v) is %v", one.op, args, v)
				}
			}
		}
	}
}

// P0.4: arguments are not changed, also behind their ends.
func TestNothingIsChanged(t *testing.T) {
	m := newMaker()
	for range 2000 {
		e, vars, env := m.expression(), common(), m.env()
		c, _ := code.Compile(e, vars)
		vars, env, c.Instrs, c.Vars = append(vars, api.Var{Name: "behind"})[:10], append(env, api.Value{Type: 9})[:10], append(c.Instrs, api.Instr{Op: 9})[:len(c.Instrs)], append(c.Vars, api.Var{})[:10]
		args := append(slices.Clone(env[:2]), api.Value{Type: 8})[:2]
		all := func() string {
			return fmt.Sprint(e, vars[:cap(vars)], env[:cap(env)], c, c.Vars[:cap(c.Vars)], c.Instrs[:cap(c.Instrs)], args[:cap(args)])
		}
		before := all()
		eval.Tree(e, vars, env)
		eval.Run(c, env, 100)
		eval.Run(c, env, 3)
		eval.Valid(vars, env)
		eval.Apply(api.OpAdd+m.random.IntN(15), args)
		if all() != before {
			t.Fatalf("%s is left of %s", all(), before)
		}
	}
}

// P0.4: nothing is kept from one call to the next.
func TestNothingIsKept(t *testing.T) {
	c, env := compiled("if b then n - count else n"), with("n 5, count 3, b 1")
	e := read("if b then n - count else n")
	for i, want := range []string{"number 2", "number 5", "number 2", "number 5"} {
		v, left, _ := eval.Run(c, env, 100)
		if other, _ := eval.Tree(e, common(), env); v != value(want) || other != value(want) || left != []int{94, 97}[i%2] {
			t.Errorf("Run is %v, %d, and Tree %v; want %s", v, left, other, want)
		}
		env[8].N = 1 - env[8].N
	}
}
