package code_test

import (
	"fmt"
	"math"
	"slices"
	"strings"
	"testing"

	"corebank/api"
)

// repeat returns a listing with a part a number of times.
func repeat(part string, count int) string { return strings.Repeat(part+", ", count) }

// is returns code with the common variables and these instructions.
func is(kind int, instrs ...api.Instr) api.Code {
	return api.Code{Type: kind, Vars: common(), Instrs: instrs}
}

// variables are the common variables by their types.
var variables = []string{"", "n", "a", "r", "d", "b"}

// P12.2: examples 2 and 3.
func TestValidateExamples(t *testing.T) {
	refused(t, made(api.TyNumber, "push number 1, add"), api.ErrCode)
	refused(t, made(api.TyAmount, "push number 1"), api.ErrCode)
	accepted(t, made(api.TyNumber, "push number 1"), 1)
	refused(t, made(api.TyNumber, repeat("push number 1", 17)), api.ErrLimit)
}

// P12.2: no instructions.
func TestValidateEmpty(t *testing.T) {
	for kind := -1; kind <= 6; kind++ {
		for _, vars := range [][]api.Var{nil, {}, common()} {
			refused(t, api.Code{Type: kind, Vars: vars}, api.ErrCode)
			refused(t, api.Code{Type: kind, Vars: vars, Instrs: []api.Instr{}}, api.ErrCode)
		}
	}
}

// P12.2, P12.3: each operator with any types of operands, and each type of the result.
func TestValidateOperators(t *testing.T) {
	results := map[string]int{}
	for _, one := range rows() {
		results[fmt.Sprint(one.name, one.operands)] = one.result
	}
	taken := 0
	for name, op := range names {
		for _, operands := range pairs() {
			operands = operands[:arity(op)]
			loads := ""
			for _, kind := range operands {
				loads += "load " + variables[kind] + ", "
			}
			result := results[fmt.Sprint(name, operands)]
			for kind := -1; kind <= 6; kind++ {
				if result == 0 || kind != result {
					refused(t, made(kind, loads+name), api.ErrCode)
				} else {
					accepted(t, made(kind, loads+name), len(operands))
				}
			}
			if result == 0 {
				continue
			}
			taken++
			// What is below the operands stays there.
			below := fmt.Sprintf("push number 7, %s %s, load %s, eq, false %d", loads, name, variables[result], len(operands)+5)
			accepted(t, made(api.TyNumber, below), 3)
			refused(t, made(result, "load d, "+loads+name), api.ErrCode)
		}
	}
	// Each row of neg and not is found once for each type of a second operand.
	if taken != 52+4*4 {
		t.Errorf("%d combinations are taken", taken)
	}
}

// pairs returns all pairs of types.
func pairs() [][]int {
	var l [][]int
	for _, first := range kinds {
		for _, second := range kinds {
			l = append(l, []int{first, second})
		}
	}
	return l
}

// P12.2: operators with too few operands.
func TestValidateOperands(t *testing.T) {
	for name, op := range names {
		for kind := 1; kind <= 5; kind++ {
			refused(t, made(kind, name), api.ErrCode)
			refused(t, made(kind, name+", load "+variables[kind]), api.ErrCode)
			for _, only := range variables[1:] {
				if arity(op) == 2 {
					refused(t, made(kind, "load "+only+", "+name), api.ErrCode)
					refused(t, made(kind, "load "+only+", "+name+", load "+only), api.ErrCode)
				}
			}
		}
	}
	refused(t, made(api.TyNumber, "load n, load n, add, add"), api.ErrCode)
	refused(t, made(api.TyBool, "load b, load b, and, or"), api.ErrCode)
	accepted(t, made(api.TyBool, "load b, load b, load b, and, or"), 3)
}

// P12.2: operators that code does not have.
func TestValidateOtherOperators(t *testing.T) {
	others := []int{api.OpIf, api.OpNum, api.OpCash, api.OpRate, api.OpVar, api.OpAdd - 1, api.OpMax + 1, 0, -1, -api.OpAdd, 20, 21, 100, 256 + api.OpAdd, 1<<32 + api.OpAdd, -1<<32 + api.OpAdd, math.MaxInt, math.MinInt, math.MinInt + api.OpAdd}
	for _, other := range others {
		op := api.Instr{Op: api.InOp, A: other}
		for _, loads := range []string{"", "load n", "load b", "load n, load n", "load b, load b", "load b, load n, load n", "load b, load b, load b", "load a, load r", "load d, load d, load d"} {
			c := made(0, loads)
			c.Instrs = append(c.Instrs, op)
			for c.Type = -1; c.Type <= 6; c.Type++ {
				refused(t, c, api.ErrCode)
			}
		}
	}
	// An operator uses no number.
	for _, n := range []int{1, -1, math.MaxInt, math.MinInt} {
		refused(t, is(api.TyNumber, append(assemble("load n, load n", common()), api.Instr{Op: api.InOp, A: api.OpAdd, N: n})...), api.ErrCode)
		refused(t, is(api.TyBool, append(assemble("load b", common()), api.Instr{Op: api.InOp, A: api.OpNot, N: n})...), api.ErrCode)
	}
}

// P12.2, P12.4: constants.
func TestValidatePush(t *testing.T) {
	most := map[int]int{api.TyNumber: math.MaxInt, api.TyAmount: 1000000000000, api.TyRate: 1000000}
	for kind := -1; kind <= 7; kind++ {
		for _, n := range []int{0, 1, 5, 999999, 1000000, 1000001, 999999999999, 1000000000000, 1000000000001, math.MaxInt - 1, math.MaxInt, -1, -5, -1000000, math.MinInt, math.MinInt + 1} {
			c := is(kind, api.Instr{Op: api.InPush, A: kind, N: n})
			if greatest, ok := most[kind]; !ok || n < 0 || n > greatest {
				refused(t, c, api.ErrCode)
			} else {
				accepted(t, c, 1)
			}
		}
	}
	for _, kind := range []int{api.TyDay, api.TyBool, 0, 6, -1, 256 + 1, 1<<32 + 1, -1<<32 + 2, math.MaxInt, math.MinInt, math.MinInt + 1} {
		for wanted := 0; wanted <= 6; wanted++ {
			refused(t, is(wanted, api.Instr{Op: api.InPush, A: kind}), api.ErrCode)
			refused(t, is(wanted, api.Instr{Op: api.InPush, A: kind, N: 1}), api.ErrCode)
			refused(t, is(kind, api.Instr{Op: api.InPush, A: wanted}), api.ErrCode)
		}
	}
}

// P12.2, P12.4: variables.
func TestValidateLoad(t *testing.T) {
	for _, vars := range [][]api.Var{nil, {}, numbered(1), numbered(2), common(), numbered(63), numbered(64)} {
		for _, a := range []int{0, 1, 2, 9, 62, 63, 64, 65, 128, 256, 1 << 32, -1, -2, -64, math.MaxInt, math.MinInt} {
			for kind := 0; kind <= 6; kind++ {
				c := api.Code{Type: kind, Vars: vars, Instrs: []api.Instr{{Op: api.InLoad, A: a}}}
				if a >= 0 && a < len(vars) && vars[a].Type == kind {
					accepted(t, c, 1)
					for _, n := range []int{1, -1, math.MaxInt, math.MinInt} {
						refused(t, api.Code{Type: kind, Vars: vars, Instrs: []api.Instr{{Op: api.InLoad, A: a, N: n}}}, api.ErrCode)
					}
				} else {
					refused(t, c, api.ErrCode)
				}
			}
		}
	}
	// Without variables, code without them is valid.
	accepted(t, api.Code{Type: api.TyNumber, Instrs: assemble("push number 1, push number 2, add", nil)}, 2)
}

// P12.2: opcodes that do not exist.
func TestValidateOpcodes(t *testing.T) {
	for _, op := range []int{0, 6, -1, -2, -5, 7, 100, 255, 256 + 1, 256 + 2, 1<<32 + 1, 1<<32 + 2, -1<<32 + 2, math.MaxInt, math.MinInt, math.MinInt + 1} {
		for a := -1; a <= 6; a++ {
			wrong := api.Instr{Op: op, A: a}
			for kind := 0; kind <= 6; kind++ {
				refused(t, is(kind, wrong), api.ErrCode)
				refused(t, is(kind, wrong, api.Instr{Op: api.InPush, A: 1}), api.ErrCode)
				refused(t, is(kind, api.Instr{Op: api.InLoad, A: 8}, wrong), api.ErrCode)
				refused(t, is(kind, api.Instr{Op: api.InPush, A: 1}, wrong, api.Instr{Op: api.InPush, A: 1}), api.ErrCode)
			}
		}
	}
	refused(t, is(api.TyNumber, api.Instr{}), api.ErrCode)
	refused(t, is(0, api.Instr{}), api.ErrCode)
}

// P12.2: the stack at the end.
func TestValidateEnd(t *testing.T) {
	for kind, name := range variables {
		for wanted := -2; wanted <= 7; wanted++ {
			switch {
			case kind == 0:
			case kind == wanted:
				accepted(t, made(wanted, "load "+name), 1)
			default:
				refused(t, made(wanted, "load "+name), api.ErrCode)
			}
			if kind > 0 {
				refused(t, made(wanted, "load "+name+", load "+name), api.ErrCode)
				refused(t, made(wanted, "load b, load "+name), api.ErrCode)
				refused(t, made(wanted, "load "+name+", load b"), api.ErrCode)
				refused(t, made(wanted, repeat("load "+name, 16)), api.ErrCode)
			}
			refused(t, made(wanted, "load b, false 2"), api.ErrCode)
			refused(t, made(wanted, "jump 1"), api.ErrCode)
		}
		for _, other := range []int{256 + kind, 1<<32 + kind, -1<<32 + kind, -kind - 1, math.MaxInt, math.MinInt, math.MinInt + kind} {
			refused(t, made(other, "load "+variables[max(kind, 1)]), api.ErrCode)
		}
	}
}

// P12.2, P12.3: MaxStack values, and one more, also where an operator would take them.
func TestValidateStack(t *testing.T) {
	for _, value := range []string{"push number 1", "load n", "push number 0, load n"} {
		words := strings.Count(value, ",") + 1
		for count := 1; count <= 20; count++ {
			pushes := repeat(value, 32)
			c := made(api.TyNumber, pushes+repeat("add", 32))
			c.Instrs = slices.Concat(c.Instrs[:count], c.Instrs[32*words:32*words+count-1])
			if count <= 16 {
				accepted(t, c, count)
			} else {
				refused(t, c, api.ErrLimit)
			}
			c.Type = api.TyAmount
			if count <= 16 {
				refused(t, c, api.ErrCode)
			} else {
				refused(t, c, api.ErrLimit)
			}
		}
	}
	// 16 values, of which two are replaced by one, and one by another one, again and again.
	accepted(t, made(api.TyNumber, repeat("load n", 15)+repeat("load n, add", 20)+repeat("load n, neg, sub", 10)+repeat("mul", 14)), 16)
	refused(t, made(api.TyNumber, repeat("load n", 15)+repeat("load n, add", 20)+"load n, load n, add, "+repeat("mul", 15)), api.ErrLimit)
	// A jump, an operator and an if with 16 values.
	accepted(t, made(api.TyNumber, repeat("load n", 16)+"jump 17, neg, "+repeat("add", 15)), 16)
	accepted(t, made(api.TyNumber, repeat("load n", 15)+"load b, false 19, load n, jump 20, push number 1, "+repeat("add", 15)), 16)
	refused(t, made(api.TyNumber, repeat("load n", 16)+"load b, false 20, load n, jump 21, push number 1, "+repeat("add", 16)), api.ErrLimit)
	accepted(t, made(api.TyBool, repeat("load b", 16)+"not, "+repeat("and", 15)), 16)
}

// P12.2: MaxCode instructions, and one more, with other errors among them.
func TestValidateLength(t *testing.T) {
	valid := made(api.TyNumber, "push number 1, "+repeat("push number 2, add", 63)+repeat("neg", 3))
	for length := 127; length <= 130; length++ {
		c := valid
		c.Instrs = valid.Instrs[:min(length, len(valid.Instrs))]
		if length > 128 {
			refused(t, c, api.ErrLimit)
		} else {
			accepted(t, c, 2)
		}
	}
	long := valid.Instrs[:129]
	for _, at := range []int{0, 1, 64, 127, 128} {
		for _, wrong := range []api.Instr{{}, {Op: api.InPush, A: api.TyDay}, {Op: api.InJump, A: -1}, {Op: api.InJump, A: 129}, {Op: api.InOp, A: api.OpIf}} {
			instrs := slices.Clone(long)
			instrs[at] = wrong
			refused(t, is(api.TyNumber, instrs...), api.ErrLimit)
			refused(t, is(0, instrs...), api.ErrLimit)
			if at < 128 && wrong.A != 129 {
				refused(t, is(api.TyNumber, instrs[:128]...), api.ErrCode)
			}
		}
	}
	for _, length := range []int{129, 1000, 1 << 16} {
		refused(t, is(0, make([]api.Instr, length)...), api.ErrLimit)
		for _, l := range wrongVars() {
			for _, vars := range l {
				refused(t, api.Code{Vars: vars, Instrs: make([]api.Instr, length)}, api.ErrLimit)
			}
		}
	}
	refused(t, is(0, make([]api.Instr, 128)...), api.ErrCode)
}

// P12.2: the errors of typing.Vars, together with errors in the instructions.
func TestValidateVars(t *testing.T) {
	for want, l := range wrongVars() {
		for _, vars := range l {
			for _, instrs := range [][]api.Instr{nil, {{Op: api.InPush, A: 1}}, {{}}, {{Op: api.InLoad}}, {{Op: api.InJump}}, make([]api.Instr, 128), assemble(repeat("push number 1", 17), nil)} {
				for kind := -1; kind <= 6; kind++ {
					refused(t, api.Code{Type: kind, Vars: vars, Instrs: instrs}, want)
				}
			}
		}
	}
	// A variable that code does not load counts, too.
	vars := append(common(), api.Var{Name: "x", Type: 7})
	refused(t, api.Code{Type: api.TyNumber, Vars: vars, Instrs: assemble("load n", vars)}, api.ErrType)
	accepted(t, api.Code{Type: api.TyNumber, Vars: vars[:10], Instrs: assemble("load n", vars)}, 1)
	accepted(t, api.Code{Type: api.TyRate, Vars: numbered(64), Instrs: assemble("load v62", numbered(64))}, 1)
}
