package expr

import (
	"strconv"

	"corebank/api"
	"corebank/token"
)

// Tokens returns the tokens of an expression.
func Tokens(e api.Expr) ([]api.Token, api.Errno) {
	if problem := Validate(e); problem != api.OK {
		return nil, problem
	}
	var p printer
	p.expression(e, rankIf)
	return p.tokens, api.OK
}

// printer collects the tokens that it writes.
type printer struct{ tokens []api.Token }

// put writes a token.
func (p *printer) put(kind int, text string) {
	p.tokens = append(p.tokens, api.Token{Kind: kind, Line: 1, Text: text})
}

// expression writes a valid expression where at least a rank is required.
func (p *printer) expression(e api.Expr, least int) {
	o := operators[e.Op]
	switch {
	case o.rank < least:
		p.put(api.TkMark, "(")
		p.expression(e, rankIf)
		p.put(api.TkMark, ")")
	case o.between():
		p.expression(e.Args[0], o.leftRank())
		p.put(o.kind, o.text)
		p.expression(e.Args[1], o.rightRank())
	case o.operands == 0:
		p.single(e)
	default:
		p.put(o.kind, o.text)
		p.behind(e.Op, e.Args)
	}
}

// single writes an expression without operands.
func (p *printer) single(e api.Expr) {
	switch e.Op {
	case api.OpNum:
		p.put(api.TkNum, strconv.Itoa(e.N))
	case api.OpCash:
		p.put(api.TkMark, "$")
		p.put(api.TkNum, strconv.Itoa(e.N))
	case api.OpRate:
		// There is no error: the rate of a valid expression is a percentage.
		percentage, _ := token.Percent(e.N)
		p.put(api.TkRate, percentage)
	case api.OpVar:
		p.put(api.TkName, e.S)
	}
}

// behind writes the operands of an operator that stands before them.
func (p *printer) behind(op int, operands []api.Expr) {
	switch op {
	case api.OpNeg, api.OpNot:
		p.expression(operands[0], operators[op].rank)
	case api.OpMin, api.OpMax:
		p.put(api.TkMark, "(")
		p.expression(operands[0], rankIf)
		p.put(api.TkMark, ",")
		p.expression(operands[1], rankIf)
		p.put(api.TkMark, ")")
	case api.OpIf:
		p.expression(operands[0], rankIf)
		p.put(api.TkWord, "then")
		p.expression(operands[1], rankIf)
		p.put(api.TkWord, "else")
		p.expression(operands[2], rankIf)
	}
}
