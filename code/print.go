package code

import (
	"strconv"
	"strings"

	"corebank/api"
)

// kindNames are the names of the types that have constants.
var kindNames = [...]string{api.TyNumber: "number", api.TyAmount: "amount", api.TyRate: "rate"}

// operatorNames are the names of the operators of InOp.
var operatorNames = [...]string{
	api.OpAdd: "add",
	api.OpSub: "sub",
	api.OpMul: "mul",
	api.OpDiv: "div",
	api.OpNeg: "neg",
	api.OpEq:  "eq",
	api.OpNe:  "ne",
	api.OpLt:  "lt",
	api.OpLe:  "le",
	api.OpAnd: "and",
	api.OpOr:  "or",
	api.OpNot: "not",
	api.OpMin: "min",
	api.OpMax: "max",
}

// Print returns the code as text.
func Print(c api.Code) string {
	if Validate(c) != api.OK {
		return ""
	}
	var text strings.Builder
	for _, instr := range c.Instrs {
		text.WriteString(line(instr, c.Vars))
		text.WriteByte('\n')
	}
	return text.String()
}

// line returns the text of an instruction of valid code.
func line(instr api.Instr, vars []api.Var) string {
	switch instr.Op {
	case push:
		return "push " + kindNames[instr.A] + " " + strconv.Itoa(instr.N)
	case load:
		return "load " + vars[instr.A].Name
	case operate:
		return operatorNames[instr.A]
	case jump:
		return "jump " + strconv.Itoa(instr.A)
	}
	return "false " + strconv.Itoa(instr.A)
}
