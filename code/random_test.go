package code_test

import (
	"fmt"
	"math"
	"math/rand/v2"
	"slices"
	"testing"

	"corebank/api"
	"corebank/code"
	"corebank/expr"
)

// maker makes expressions and code, picked at random.
type maker struct {
	random *rand.Rand
	rows   [6][]row
}

// newMaker returns a maker.
func newMaker() *maker {
	m := &maker{random: seeded()}
	for _, one := range rows() {
		m.rows[one.result] = append(m.rows[one.result], one)
	}
	return m
}

// grown returns an expression of a type with at most depth levels.
func (m *maker) grown(kind, depth int) api.Expr {
	if depth == 1 || m.random.IntN(6) == 0 {
		some := sample(kind)
		return some[m.random.IntN(len(some))]
	}
	if m.random.IntN(4) == 0 || len(m.rows[kind]) == 0 {
		return node(api.OpIf, m.grown(api.TyBool, depth-1), m.grown(kind, depth-1), m.grown(kind, depth-1))
	}
	chosen := m.rows[kind][m.random.IntN(len(m.rows[kind]))]
	e := api.Expr{Op: names[chosen.name]}
	for _, operand := range chosen.operands {
		e.Args = append(e.Args, m.grown(operand, depth-1))
	}
	return e
}

// expression returns a valid expression with a type.
func (m *maker) expression() api.Expr {
	for {
		e := m.grown(kinds[m.random.IntN(len(kinds))], 1+m.random.IntN(api.MaxDepth))
		if expr.Nodes(e) <= api.MaxNodes {
			return e
		}
	}
}

// small returns a number near to the ones that instructions use, or far from all.
func (m *maker) small() int {
	some := []int{math.MaxInt, math.MinInt, api.MaxAmount, api.MaxAmount + 1, api.MaxPpm, api.MaxPpm + 1, 1<<32 + 1}
	if i := m.random.IntN(200); i < len(some) {
		return some[i]
	}
	return m.random.IntN(22) - 1
}

// any returns an instruction of any kind at an index, of which most have one of the chapter's forms.
func (m *maker) any(at int) api.Instr {
	switch m.random.IntN(12) {
	case 0, 1, 2:
		return api.Instr{Op: api.InPush, A: 1 + m.random.IntN(3), N: m.random.IntN(100)}
	case 3, 4, 5:
		return api.Instr{Op: api.InLoad, A: m.random.IntN(10)}
	case 6, 7, 8:
		return api.Instr{Op: api.InOp, A: api.OpAdd + m.random.IntN(14)}
	case 9:
		return api.Instr{Op: api.InJump, A: at + 1 + m.random.IntN(6)}
	case 10:
		return api.Instr{Op: api.InFalse, A: at + 1 + m.random.IntN(6)}
	}
	return api.Instr{Op: m.small() % 8, A: m.small(), N: m.small() / 7}
}

// damaged returns code that differs in a few places.
func (m *maker) damaged(c api.Code) api.Code {
	c = cloned(c)
	for range 1 + m.random.IntN(3) {
		at := m.random.IntN(len(c.Instrs) + 1)
		if at == len(c.Instrs) {
			c.Instrs = append(c.Instrs, m.any(at))
		}
		i := &c.Instrs[at]
		switch m.random.IntN(12) {
		case 0:
			c.Instrs = slices.Delete(c.Instrs, at, at+1)
		case 1:
			c.Instrs = slices.Insert(c.Instrs, at, m.any(at))
		case 2:
			*i = m.any(at)
		case 3:
			i.N += m.random.IntN(3) - 1
		case 4:
			i.A += m.random.IntN(3) - 1
		case 5:
			i.Op += m.random.IntN(3) - 1
		case 6:
			c.Type = m.small()
		case 7:
			v := &c.Vars[m.random.IntN(len(c.Vars))]
			v.Type = m.random.IntN(7)
		case 8:
			c.Vars = c.Vars[:1+m.random.IntN(len(c.Vars))]
		default:
			m.redirect(c)
		}
	}
	return c
}

// redirect gives a jump of code another target.
func (m *maker) redirect(c api.Code) {
	from := m.random.IntN(len(c.Instrs) + 1)
	for i := range c.Instrs {
		one := &c.Instrs[(from+i)%len(c.Instrs)]
		if one.Op == api.InJump || one.Op == api.InFalse {
			one.A = m.random.IntN(len(c.Instrs) + 2)
			return
		}
	}
}

// P12.1 to P12.6: expressions, their code, and code that differs from it.
func TestPickedAtRandom(t *testing.T) {
	m := newMaker()
	counts := map[api.Errno]int{}
	for range 20000 {
		e := m.expression()
		checkCompile(t, e, common())
		c, problem := code.Compile(e, common())
		if problem != api.OK {
			t.Fatalf("Compile(%s) is %d", show(e), problem)
		}
		for range 3 {
			other := m.damaged(c)
			check(t, other)
			counts[code.Validate(other)]++
			if want := fmt.Sprint(c) == fmt.Sprint(other); code.Same(c, other) != want {
				t.Errorf("Same(%v, %v) is %t", c, other, !want)
			}
		}
	}
	for _, problem := range []api.Errno{api.OK, api.ErrCode, api.ErrType} {
		if counts[problem] < 1000 {
			t.Errorf("the errors are %v", counts)
		}
	}
}

// straying returns code with jumps to any places. At each index, instructions are tried until one has its operands and leaves the stack that jumps before lead to expect; it is valid if there is one each time, and if one value is left.
func (m *maker) straying(length int) api.Code {
	c := api.Code{Vars: common(), Instrs: make([]api.Instr, length)}
	known := map[int]string{0: ""}
	for at := range length {
		for range 40 {
			c.Instrs[at] = m.any(at)
			// Values are taken rather at the end, so that one is left.
			if m.random.IntN(length) < at {
				c.Instrs[at] = m.taking(at)
			}
			if m.leads(c, at, known) {
				break
			}
		}
	}
	if left := known[length]; len(left) == 1 {
		c.Type = int(left[0] - '0')
	}
	return c
}

// taking returns an instruction that takes values.
func (m *maker) taking(at int) api.Instr {
	if m.random.IntN(4) == 0 {
		return api.Instr{Op: api.InFalse, A: at + 1 + m.random.IntN(4)}
	}
	return api.Instr{Op: api.InOp, A: api.OpAdd + m.random.IntN(14)}
}

// leads reports whether an instruction agrees with the stacks that are known; if it does, it adds those that it leaves.
func (m *maker) leads(c api.Code, at int, known map[int]string) bool {
	before, ok := known[at]
	i := c.Instrs[at]
	if !ok || !permitted(c, at) {
		return false
	}
	left, ok := after(c, i, before)
	if !ok || len(left) > 16 {
		return false
	}
	var places []int
	if i.Op != api.InJump {
		places = append(places, at+1)
	}
	if i.Op == api.InJump || i.Op == api.InFalse {
		places = append(places, i.A)
	}
	for _, place := range places {
		if expected, ok := known[place]; ok && expected != left {
			return false
		}
	}
	// Nothing else would lead to the next instruction.
	if _, ok := known[at+1]; !ok && !slices.Contains(places, at+1) {
		return false
	}
	for _, place := range places {
		known[place] = left
	}
	return true
}

// P12.2 to P12.4: code that no expression leads to.
func TestValidatePickedAtRandom(t *testing.T) {
	m := newMaker()
	counts, jumps := map[api.Errno]int{}, 0
	for range 20000 {
		c := m.straying(1 + m.random.IntN(12))
		check(t, c)
		problem := code.Validate(c)
		counts[problem]++
		if problem == api.OK && slices.ContainsFunc(c.Instrs, func(i api.Instr) bool { return i.Op == api.InJump || i.Op == api.InFalse }) {
			jumps++
		}
		check(t, m.damaged(c))
	}
	if counts[api.OK] < 1000 || counts[api.ErrCode] < 1000 || jumps < 300 {
		t.Errorf("the errors are %v, and %d have jumps", counts, jumps)
	}
	// Many values, so that there are too many of them.
	limits := 0
	for range 20000 {
		var instrs []api.Instr
		for at := range 14 + m.random.IntN(10) {
			i := m.any(at)
			if m.random.IntN(20) > 0 {
				i = api.Instr{Op: api.InLoad, A: m.random.IntN(2)}
			}
			instrs = append(instrs, i)
		}
		c := is(api.TyNumber, instrs...)
		check(t, c)
		if code.Validate(c) == api.ErrLimit {
			limits++
		}
	}
	if limits < 1000 || limits > 19000 {
		t.Errorf("%d have too many values", limits)
	}
}

// P12.6: two different expressions with the same variables never have the same code.
func TestDifferentCode(t *testing.T) {
	m := newMaker()
	known := map[string]api.Expr{}
	add := func(e api.Expr) bool {
		c, problem := code.Compile(e, common())
		if problem != api.OK {
			return false
		}
		text := fmt.Sprint(c)
		if other, ok := known[text]; ok && !expr.Same(e, other) {
			t.Errorf("%s and %s have the same code", show(e), show(other))
		}
		known[text] = e
		return true
	}
	// All expressions of up to two levels, with a few leaves, and many of three.
	leaves := []api.Expr{name("n"), name("a"), name("b"), name("active"), name("d"), num(0), num(1), cash(0), cash(1), rate(1)}
	var some []api.Expr
	for op := api.OpAdd; op <= api.OpIf; op++ {
		for _, x := range leaves {
			for _, y := range leaves {
				for _, z := range leaves {
					some = append(some, node(op, []api.Expr{x, y, z}[:arity(op)]...))
				}
			}
		}
	}
	some = slices.DeleteFunc(append(some, leaves...), func(e api.Expr) bool { return !add(e) })
	pick := func() api.Expr { return some[m.random.IntN(len(some))] }
	for range 100000 {
		op := api.OpAdd + m.random.IntN(15)
		add(node(op, []api.Expr{pick(), pick(), pick()}[:arity(op)]...))
	}
	for range 5000 {
		add(m.expression())
	}
	if len(known) < 10000 {
		t.Errorf("there are only %d codes", len(known))
	}
}

// P0.1: code and expressions that are far too large, or strange.
func TestStrange(t *testing.T) {
	huge := is(1, slices.Repeat([]api.Instr{{Op: api.InLoad}}, 1<<20)...)
	refused(t, huge, api.ErrLimit)
	if !code.Same(huge, cloned(huge)) {
		t.Error("Same is false")
	}
	wide := name("n")
	for range 60 {
		wide = node(api.OpAdd, wide, wide)
	}
	fails(t, wide, common(), api.ErrLimit)
	fails(t, node(api.OpIf, wide, wide, name("if")), numbered(64), api.ErrLimit)
	fails(t, wide, numbered(1<<16), api.ErrLimit)
	// An expression that contains itself.
	endless := node(api.OpNeg, api.Expr{Op: api.OpNeg})
	endless.Args[0].Args = endless.Args
	if c, problem := code.Compile(endless, nil); problem != api.ErrLimit || len(c.Instrs) > 0 {
		t.Errorf("Compile is %v, %d", c, problem)
	}
}

// P0.4: code is not changed.
func TestNothingIsChanged(t *testing.T) {
	m := newMaker()
	for range 2000 {
		c, _ := code.Compile(m.expression(), common())
		if m.random.IntN(2) == 0 {
			c = m.damaged(c)
		}
		c.Vars, c.Instrs = append(c.Vars, api.Var{Name: "behind"})[:len(c.Vars)], append(c.Instrs, api.Instr{Op: 99})[:len(c.Instrs)]
		all := func() string { return fmt.Sprint(c, c.Vars[:cap(c.Vars)], c.Instrs[:cap(c.Instrs)]) }
		before := all()
		code.Validate(c)
		code.Depth(c)
		code.Print(c)
		code.Same(c, c)
		if all() != before {
			t.Fatalf("%s is left of %s", all(), before)
		}
	}
}
