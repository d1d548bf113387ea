package eval

import (
	"corebank/api"
	"corebank/code"
)

// Run executes code, and returns what is left of the budget.
func Run(c api.Code, env []api.Value, fuel int) (api.Value, int, api.Errno) {
	if code.Validate(c) != api.OK {
		return api.Value{}, 0, api.ErrCode
	}
	if !Valid(c.Vars, env) {
		return api.Value{}, 0, api.ErrArg
	}
	m := machine{env: env}
	// This ends, because valid code jumps only ahead.
	for m.next < len(c.Instrs) {
		if fuel <= 0 {
			return api.Value{}, 0, api.ErrFuel
		}
		fuel--
		if problem := m.step(c.Instrs[m.next]); problem != api.OK {
			return api.Value{}, 0, problem
		}
	}
	return m.pop(), fuel, api.OK
}

// machine executes the instructions of valid code. It does not examine the stack: valid code finds its operands there.
type machine struct {
	env, stack []api.Value
	next       int
}

// step executes an instruction. The next one follows unless the instruction says otherwise.
func (m *machine) step(instr api.Instr) api.Errno {
	m.next++
	return standing(instr).execute(m)
}

// push puts a value on the stack.
func (m *machine) push(v api.Value) { m.stack = append(m.stack, v) }

// pop takes a value from the stack.
func (m *machine) pop() api.Value {
	top := len(m.stack) - 1
	v := m.stack[top]
	m.stack = m.stack[:top]
	return v
}

// instruction stands for an instruction: it executes it, and returns the error of its operator.
type instruction interface {
	execute(m *machine) api.Errno
}

// standing returns what stands for an instruction of valid code.
func standing(instr api.Instr) instruction {
	switch instr.Op {
	case api.InPush:
		return constant{Type: instr.A, N: instr.N}
	case api.InLoad:
		return variable(instr.A)
	case api.InOp:
		return operation(instr.A)
	case api.InJump:
		return jump(instr.A)
	}
	return branch(instr.A)
}

// constant is a value that is pushed.
type constant api.Value

func (c constant) execute(m *machine) api.Errno {
	m.push(api.Value(c))
	return api.OK
}

// variable is the index of a variable whose value is pushed.
type variable int

func (v variable) execute(m *machine) api.Errno {
	m.push(m.env[v])
	return api.OK
}

// operation is an operator that is applied.
type operation int

func (o operation) execute(m *machine) api.Errno {
	values := make([]api.Value, o.operands())
	for i := range values {
		values[len(values)-1-i] = m.pop()
	}
	v, problem := Apply(int(o), values)
	m.push(v)
	return problem
}

// operands returns the number of operands of an operator.
func (o operation) operands() int {
	if o == api.OpNeg || o == api.OpNot {
		return 1
	}
	return 2
}

// jump is the index of the instruction that follows.
type jump int

func (j jump) execute(m *machine) api.Errno {
	m.next = int(j)
	return api.OK
}

// branch is the index of the instruction that follows if the value on the stack is false.
type branch int

func (b branch) execute(m *machine) api.Errno {
	if m.pop().N == 0 {
		m.next = int(b)
	}
	return api.OK
}
