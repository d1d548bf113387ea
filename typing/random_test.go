package typing_test

import (
	"math"
	"slices"
	"testing"

	"corebank/api"
	"corebank/expr"
	"corebank/typing"
)

// damaged returns an expression in which one or two nodes are replaced by others.
func (m *maker) damaged(e api.Expr) api.Expr {
	others := []api.Expr{name("unknown"), name("untyped"), name("six"), name("n"), name("a"), name("b"), num(2), cash(3), rate(4), name("if"), num(-1), node(api.OpNot), node(99), read("n + a"), read("unknown and b"), read("a * r")}
	for range 1 + m.random.IntN(2) {
		target, kept := m.random.IntN(expr.Nodes(e)), m.random.IntN(3) == 0
		e = changed(e, func(at int, e api.Expr) api.Expr {
			switch {
			case at != target:
				return e
			case kept:
				// The operands stay, and the operator is another one.
				e.Op = composed[m.random.IntN(len(composed))]
				return e
			}
			return others[m.random.IntN(len(others))]
		})
	}
	return e
}

// any returns an expression that is damaged or not.
func (m *maker) any() api.Expr {
	e, _ := m.valid()
	if m.random.IntN(2) == 0 {
		return m.damaged(e)
	}
	return e
}

// variables returns variables in any order, of which some are damaged.
func (m *maker) variables() []api.Var {
	vars := append(common(), api.Var{Name: "untyped"}, api.Var{Name: "six", Type: 6})
	m.random.Shuffle(len(vars), func(i, j int) { vars[i], vars[j] = vars[j], vars[i] })
	for range m.random.IntN(3) {
		i := m.random.IntN(len(vars))
		switch m.random.IntN(4) {
		case 0:
			vars = slices.Delete(vars, i, i+1)
		case 1:
			vars[i].Type = m.random.IntN(8) - 1
		case 2:
			vars[i].Name = vars[m.random.IntN(len(vars))].Name
		default:
			vars = append(vars, api.Var{Name: vars[i].Name, Type: m.random.IntN(8) - 1})
		}
	}
	return vars
}

// P11.2, P11.3: expressions with types, and others.
func TestOfPickedAtRandom(t *testing.T) {
	m := newMaker()
	counts := map[api.Errno]int{}
	for range 20000 {
		e, kind := m.valid()
		requires(t, e, common(), kind, api.OK)
		checkOf(t, e, m.variables())
		e = m.damaged(e)
		checkOf(t, e, common())
		vars := m.variables()
		checkOf(t, e, vars)
		_, problem := typing.Of(e, vars)
		counts[problem]++
	}
	for _, problem := range []api.Errno{api.OK, api.ErrArg, api.ErrName, api.ErrType} {
		if counts[problem] < 500 {
			t.Errorf("the errors are %v", counts)
		}
	}
}

// constant returns an expression without variables for a variable, if there is one for its type.
func constant(e api.Expr, vars []api.Var) api.Expr {
	i := slices.IndexFunc(vars, func(v api.Var) bool { return v.Name == e.S })
	if e.Op != api.OpVar || i < 0 {
		return e
	}
	switch vars[i].Type {
	case api.TyNumber:
		return num(3)
	case api.TyAmount:
		return cash(3)
	case api.TyRate:
		return rate(3)
	}
	return e
}

// P11.5: variables are replaced by numbers, amounts and rates: one, and all of them.
func TestReplaced(t *testing.T) {
	m := newMaker()
	replaced := 0
	for i := range 10000 {
		e, _ := m.valid()
		vars := common()
		if i%2 == 0 {
			e, vars = m.damaged(e), m.variables()
		}
		found, problem := typing.Of(e, vars)
		if problem == api.ErrArg || problem == api.ErrLimit {
			continue
		}
		target := m.random.IntN(expr.Nodes(e))
		one := changed(e, func(at int, e api.Expr) api.Expr {
			if at == target {
				return constant(e, vars)
			}
			return e
		})
		all := changed(e, func(_ int, e api.Expr) api.Expr { return constant(e, vars) })
		if !expr.Same(e, all) {
			replaced++
		}
		requires(t, one, vars, found, problem)
		requires(t, all, vars, found, problem)
	}
	if replaced < 4000 {
		t.Errorf("only %d expressions have variables", replaced)
	}
}

// P11.6: operands have types, and operators take them.
func TestOperandsHaveTypes(t *testing.T) {
	m := newMaker()
	for range 10000 {
		e := m.any()
		vars := m.variables()
		found, problem := typing.Of(e, vars)
		if problem != api.OK || len(e.Args) == 0 {
			continue
		}
		var operands []int
		for _, operand := range e.Args {
			kind, problem := typing.Of(operand, vars)
			if problem != api.OK {
				t.Errorf("Of(%s, %v) is %d, but %d for the operand %s", show(e), vars, found, problem, show(operand))
			}
			operands = append(operands, kind)
		}
		if result, ok := typing.Result(e.Op, operands); result != found || !ok {
			t.Errorf("Of(%s, %v) is %d, but Result(%d, %v) is %d, %t", show(e), vars, found, e.Op, operands, result, ok)
		}
	}
}

// P11.6: the order of variables with different names does not matter.
func TestOrderOfVariables(t *testing.T) {
	m := newMaker()
	for range 5000 {
		e := m.any()
		vars := append(common(), api.Var{Name: "untyped"}, api.Var{Name: "six", Type: 6})
		vars = vars[m.random.IntN(6):]
		found, problem := typing.Of(e, vars)
		m.random.Shuffle(len(vars), func(i, j int) { vars[i], vars[j] = vars[j], vars[i] })
		requires(t, e, vars, found, problem)
		slices.Reverse(vars)
		requires(t, e, vars, found, problem)
	}
}

// P0.4
func TestNothingIsChanged(t *testing.T) {
	m := newMaker()
	for range 2000 {
		e := m.any()
		vars := m.variables()
		copied := changed(e, func(_ int, e api.Expr) api.Expr { return e })
		room := append(slices.Clone(vars), api.Var{Name: "behind", Type: math.MaxInt})
		before := slices.Clone(room)
		typing.Of(e, room[:len(vars)])
		typing.Check(e, room[:len(vars)], api.TyBool)
		typing.Vars(room[:len(vars)])
		if !expr.Same(e, copied) || !slices.Equal(room, before) {
			t.Fatalf("%s with %v is %s with %v afterwards", show(copied), before, show(e), room)
		}
	}
}
