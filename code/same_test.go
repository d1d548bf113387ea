package code_test

import (
	"fmt"
	"math"
	"slices"
	"testing"

	"corebank/api"
	"corebank/code"
)

// cloned returns a copy of code.
func cloned(c api.Code) api.Code {
	return api.Code{Type: c.Type, Vars: slices.Clone(c.Vars), Instrs: slices.Clone(c.Instrs)}
}

// P12.5: code of any kind, compared with all others.
func TestSame(t *testing.T) {
	x, y := api.Var{Name: "x", Type: 1}, api.Var{Name: "y", Type: 1}
	one, two := api.Instr{Op: 1, A: 1, N: 1}, api.Instr{Op: 1, A: 1, N: 2}
	all := []api.Code{
		{}, {Type: 1}, {Type: -1}, {Type: math.MinInt}, {Vars: []api.Var{{}}}, {Vars: []api.Var{x}}, {Vars: []api.Var{y}}, {Vars: []api.Var{x, y}}, {Vars: []api.Var{y, x}}, {Vars: []api.Var{x, x}}, {Vars: make([]api.Var, 2)},
		{Instrs: []api.Instr{{}}}, {Instrs: []api.Instr{one}}, {Instrs: []api.Instr{two}}, {Instrs: []api.Instr{one, two}}, {Instrs: []api.Instr{two, one}}, {Instrs: []api.Instr{one, one}}, {Instrs: make([]api.Instr, 2)}, {Instrs: make([]api.Instr, 1000)}, {Vars: []api.Var{x}, Instrs: []api.Instr{one}}, {Type: 1, Vars: []api.Var{x}, Instrs: []api.Instr{one}},
		is(api.TyNumber), is(api.TyAmount), made(api.TyNumber, "load n, neg"), made(api.TyNumber, "load count, neg"), made(api.TyAmount, "load n, neg"), made(api.TyNumber, "load n, neg, neg"),
	}
	for _, a := range all {
		for _, b := range all {
			if want := fmt.Sprint(a) == fmt.Sprint(b); code.Same(a, cloned(b)) != want {
				t.Errorf("Same(%s, %s) is %t", brief(a), brief(b), !want)
			}
		}
	}
}

// P12.5: one field that differs.
func TestSameChanged(t *testing.T) {
	a, _ := code.Compile(read("if b then n - count else 0"), common())
	if !code.Same(a, a) || !code.Same(a, cloned(a)) {
		t.Error("Same is false")
	}
	differs := func(change func(c *api.Code)) {
		t.Helper()
		b := cloned(a)
		change(&b)
		if code.Same(a, b) || code.Same(b, a) {
			t.Errorf("Same(%v, %v) is true", a, b)
		}
		if !code.Same(b, cloned(b)) {
			t.Errorf("Same(%v, %v) is false", b, b)
		}
	}
	for _, by := range []int{1, -1, 256, 1 << 32, math.MinInt} {
		differs(func(c *api.Code) { c.Type += by })
		for i := range a.Vars {
			differs(func(c *api.Code) { c.Vars[i].Type += by })
		}
		for i := range a.Instrs {
			differs(func(c *api.Code) { c.Instrs[i].Op += by })
			differs(func(c *api.Code) { c.Instrs[i].A += by })
			differs(func(c *api.Code) { c.Instrs[i].N += by })
		}
	}
	for i := range a.Vars {
		for _, name := range []string{"", "other", a.Vars[i].Name + "x", a.Vars[i].Name + "\x00", a.Vars[i].Name[1:]} {
			differs(func(c *api.Code) { c.Vars[i].Name = name })
		}
		differs(func(c *api.Code) { c.Vars = slices.Delete(c.Vars, i, i+1) })
		differs(func(c *api.Code) { c.Vars = slices.Insert(c.Vars, i, c.Vars[i]) })
		differs(func(c *api.Code) { c.Vars = c.Vars[:i] })
	}
	for i := range a.Instrs {
		differs(func(c *api.Code) { c.Instrs = slices.Delete(c.Instrs, i, i+1) })
		differs(func(c *api.Code) { c.Instrs = slices.Insert(c.Instrs, i, c.Instrs[i]) })
		differs(func(c *api.Code) { c.Instrs = c.Instrs[:i] })
	}
	differs(func(c *api.Code) { c.Vars = append(c.Vars, api.Var{}) })
	differs(func(c *api.Code) { c.Instrs = append(c.Instrs, api.Instr{}) })
	differs(func(c *api.Code) { slices.Reverse(c.Vars) })
	differs(func(c *api.Code) { slices.Reverse(c.Instrs) })
}

// P12.5: nil and empty lists.
func TestSameEmpty(t *testing.T) {
	vars := []api.Var{{Name: "x", Type: 1}}
	instrs := []api.Instr{{Op: api.InLoad}}
	for _, pair := range [][2]api.Code{
		{{}, {Vars: []api.Var{}, Instrs: []api.Instr{}}}, {{Vars: []api.Var{}}, {Instrs: []api.Instr{}}}, {{Type: 1, Instrs: instrs}, {Type: 1, Vars: []api.Var{}, Instrs: instrs}}, {{Vars: vars}, {Vars: vars, Instrs: []api.Instr{}}}, {{Vars: vars[:0]}, {Instrs: instrs[:0]}},
	} {
		if !code.Same(pair[0], pair[1]) || !code.Same(pair[1], pair[0]) {
			t.Errorf("Same(%v, %v) is false", pair[0], pair[1])
		}
	}
}
