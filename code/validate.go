package code

import (
	"math"
	"slices"

	"corebank/api"
	"corebank/typing"
)

// Validate examines code.
func Validate(c api.Code) api.Errno {
	_, problem := examine(c)
	return problem
}

// Depth returns the greatest depth of the stack.
func Depth(c api.Code) int {
	depth, _ := examine(c)
	return depth
}

// place is what is known of the stack before an instruction or before the end: its types, whether there is one, and whether there is another one with other types.
type place struct {
	types          []int
	reached, mixed bool
}

// reach adds a stack that an instruction leaves for a place.
func (p *place) reach(types []int) {
	if p.reached && !slices.Equal(p.types, types) {
		p.mixed = true
	}
	p.types, p.reached = types, true
}

// certain reports whether there is a stack, and no other one.
func (p *place) certain() bool { return p.reached && !p.mixed }

// examine returns the greatest depth of the stack of valid code, and the error of other code.
func examine(c api.Code) (int, api.Errno) {
	if len(c.Instrs) > api.MaxCode {
		return 0, api.ErrLimit
	}
	if problem := typing.Vars(c.Vars); problem != api.OK {
		return 0, problem
	}
	end := len(c.Instrs)
	places := make([]place, end+1)
	places[0].reach(nil)
	depth := 0
	for at, instr := range c.Instrs {
		// Stacks that differ count only here, where they meet: an instruction before may have another error.
		if !places[at].certain() || !formed(c, at) {
			return 0, api.ErrCode
		}
		types, ok := left(instr, places[at].types, c.Vars)
		if !ok {
			return 0, api.ErrCode
		}
		if len(types) > api.MaxStack {
			return 0, api.ErrLimit
		}
		depth = max(depth, len(types))
		if instr.Op != jump {
			places[at+1].reach(types)
		}
		if jumps(instr) {
			places[instr.A].reach(types)
		}
	}
	if !places[end].certain() || !slices.Equal(places[end].types, []int{c.Type}) {
		return 0, api.ErrCode
	}
	return depth, api.OK
}

// jumps reports whether an instruction may continue at another one than the next.
func jumps(instr api.Instr) bool { return instr.Op == jump || instr.Op == branch }

// formed reports whether an instruction has one of the forms of instructions.
func formed(c api.Code, at int) bool {
	instr := c.Instrs[at]
	if instr.Op != push && instr.N != 0 {
		return false
	}
	switch instr.Op {
	case push:
		return instr.N >= 0 && instr.N <= greatest(instr.A)
	case load:
		return instr.A >= 0 && instr.A < len(c.Vars)
	case operate:
		return instr.A >= api.OpAdd && instr.A <= api.OpMax
	}
	return jumps(instr) && instr.A > at && instr.A <= len(c.Instrs)
}

// greatest returns the greatest number of the constants of a type, or -1 if it has none.
func greatest(kind int) int {
	switch kind {
	case api.TyNumber:
		return math.MaxInt
	case api.TyAmount:
		return api.MaxAmount
	case api.TyRate:
		return api.MaxPpm
	}
	return -1
}

// left returns the types of the stack that an instruction leaves, and whether it finds its operands. It does not change the stack before it, which other places may have as well.
func left(instr api.Instr, types []int, vars []api.Var) ([]int, bool) {
	switch instr.Op {
	case push:
		return with(types, instr.A), true
	case load:
		return with(types, vars[instr.A].Type), true
	case operate:
		return operated(instr.A, types)
	case branch:
		rest := len(types) - 1
		if rest < 0 || types[rest] != api.TyBool {
			return nil, false
		}
		return types[:rest], true
	}
	return types, true
}

// with returns the types of a stack with one more on top.
func with(types []int, kind int) []int { return slices.Concat(types, []int{kind}) }

// operated returns the types of a stack on which an operator puts its result in place of its operands, and whether it takes them.
func operated(op int, types []int) ([]int, bool) {
	rest := len(types) - operands(op)
	if rest < 0 {
		return nil, false
	}
	kind, ok := typing.Result(op, types[rest:])
	return with(types[:rest], kind), ok
}

// operands returns the number of operands of an operator of InOp.
func operands(op int) int {
	if op == api.OpNeg || op == api.OpNot {
		return 1
	}
	return 2
}
