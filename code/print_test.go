package code_test

import (
	"fmt"
	"math"
	"strings"
	"testing"

	"corebank/api"
	"corebank/code"
)

// P12.4: the text of each instruction.
func TestPrint(t *testing.T) {
	for want, c := range map[string]api.Code{
		"push number 0\n":                   is(api.TyNumber, api.Instr{Op: api.InPush, A: api.TyNumber}),
		"push number 9223372036854775807\n": is(api.TyNumber, api.Instr{Op: api.InPush, A: api.TyNumber, N: math.MaxInt}),
		"push amount 0\n":                   is(api.TyAmount, api.Instr{Op: api.InPush, A: api.TyAmount}),
		"push amount 1000000000000\n":       is(api.TyAmount, api.Instr{Op: api.InPush, A: api.TyAmount, N: api.MaxAmount}),
		"push rate 15000\n":                 is(api.TyRate, api.Instr{Op: api.InPush, A: api.TyRate, N: 15000}),
		"push rate 1000000\n":               is(api.TyRate, api.Instr{Op: api.InPush, A: api.TyRate, N: api.MaxPpm}),
		"load n\n":                          is(api.TyNumber, api.Instr{Op: api.InLoad}),
		"load active\n":                     is(api.TyBool, api.Instr{Op: api.InLoad, A: 9}),
		"load b\nfalse 2\njump 3\nload d\n": is(api.TyDay, api.Instr{Op: api.InLoad, A: 8}, api.Instr{Op: api.InFalse, A: 2}, api.Instr{Op: api.InJump, A: 3}, api.Instr{Op: api.InLoad, A: 6}),
		"load d\njump 2\n":                  is(api.TyDay, api.Instr{Op: api.InLoad, A: 6}, api.Instr{Op: api.InJump, A: 2}),
	} {
		if text := code.Print(c); text != want {
			t.Errorf("Print(%v) is %q; want %q", c, text, want)
		}
	}
}

// P12.4: the names of the operators.
func TestPrintOperators(t *testing.T) {
	for op, want := range map[int]string{5: "add", 6: "sub", 7: "mul", 8: "div", 9: "neg", 10: "eq", 11: "ne", 12: "lt", 13: "le", 14: "and", 15: "or", 16: "not", 17: "min", 18: "max"} {
		variable, loads := api.Var{Name: "x", Type: api.TyNumber}, "load x\nload x\n"
		if strings.Contains("and or not", want) {
			variable.Type = api.TyBool
		}
		c, problem := code.Compile(node(op, []api.Expr{name("x"), name("x")}[:arity(op)]...), []api.Var{variable})
		if text := code.Print(c); problem != api.OK || text != loads[:len("load x\n")*arity(op)]+want+"\n" {
			t.Errorf("Print(%v) is %q", c, text)
		}
	}
}

// P12.4: a long text, and other code, which has none.
func TestPrintLong(t *testing.T) {
	var want strings.Builder
	var instrs []api.Instr
	for i := range 127 {
		want.WriteString(fmt.Sprintf("jump %d\n", i+1))
		instrs = append(instrs, api.Instr{Op: api.InJump, A: i + 1})
	}
	want.WriteString("load first\n")
	c := is(api.TyDay, append(instrs, api.Instr{Op: api.InLoad, A: 7})...)
	if text := code.Print(c); text != want.String() || code.Depth(c) != 1 {
		t.Errorf("Print(%v) is %q", c, text)
	}
	c.Instrs = append(c.Instrs, api.Instr{Op: api.InJump, A: 129})
	if text := code.Print(c); text != "" || code.Depth(c) != 0 {
		t.Errorf("Print(%v) is %q", c, text)
	}
	for _, other := range []api.Code{{}, {Type: 1}, is(0), is(1), made(api.TyNumber, "load a"), made(api.TyNumber, "load n, load n"), made(api.TyNumber, "load n, add"), made(api.TyNumber, "jump 5")} {
		if text := code.Print(other); text != "" || code.Depth(other) != 0 {
			t.Errorf("Print(%v) is %q, with the depth %d", other, text, code.Depth(other))
		}
	}
}
