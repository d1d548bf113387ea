package expr

import (
	"strconv"

	"corebank/api"
	"corebank/token"
)

// wrongToken is the index of a token that cannot be where it is; the parser panics with it.
type wrongToken int

// Parse returns the expression that begins at a token, and the index behind it.
func Parse(l []api.Token, at int) (e api.Expr, next int, problem api.Errno) {
	if at < 0 || at > len(l) {
		return api.Expr{}, at, api.ErrSyntax
	}
	defer func() {
		if wrong, ok := recover().(wrongToken); ok {
			e, next, problem = api.Expr{}, int(wrong), api.ErrSyntax
		}
	}()
	p := parser{l, at}
	e = p.expression(rankIf)
	if problem = Validate(e); problem != api.OK {
		return api.Expr{}, at, problem
	}
	return e, p.at, api.OK
}

// parser reads tokens, of which the next one has the index at.
type parser struct {
	tokens []api.Token
	at     int
}

// fail ends the reading with the next token as the wrong one, or with the end of the tokens.
func (p *parser) fail() { panic(wrongToken(p.at)) }

// next returns the next token, and a token of no kind at the end.
func (p *parser) next() api.Token {
	if p.at == len(p.tokens) {
		return api.Token{}
	}
	return p.tokens[p.at]
}

// sees reports whether the next token has a kind and a text.
func (p *parser) sees(kind int, text string) bool {
	t := p.next()
	return t.Kind == kind && t.Text == text
}

// accepts reads the next token if it has a kind and a text, and reports whether it does.
func (p *parser) accepts(kind int, text string) bool {
	found := p.sees(kind, text)
	if found {
		p.at++
	}
	return found
}

// begins reads the token of an operator if it is the next one, and reports whether it is.
func (p *parser) begins(op int) bool { return p.accepts(operators[op].kind, operators[op].text) }

// requires reads a token that must be there.
func (p *parser) requires(kind int, text string) {
	if !p.accepts(kind, text) {
		p.fail()
	}
}

// expression reads the longest expression with at least a rank.
func (p *parser) expression(least int) api.Expr {
	e, rank := p.first(least)
	for {
		op := p.infix()
		o := operators[op]
		// The number 0 has the rank 0, which is always less.
		if o.rank < least || rank < o.leftRank() {
			return e
		}
		p.at++
		e = api.Expr{Op: op, Args: []api.Expr{e, p.expression(o.rightRank())}}
		rank = o.rank
	}
}

// infix returns the operator that the next token puts between two operands, or 0 if it is none.
func (p *parser) infix() int {
	// By the numbers alone, because the rows would all be copied.
	for op := range operators {
		if o := operators[op]; o.between() && p.sees(o.kind, o.text) {
			return op
		}
	}
	return 0
}

// first reads an expression up to the first operator that is written behind an operand, and returns its rank, too.
func (p *parser) first(least int) (api.Expr, int) {
	switch {
	case least <= rankIf && p.begins(api.OpIf):
		return p.choice(), rankIf
	case least <= rankNot && p.begins(api.OpNot):
		return api.Expr{Op: api.OpNot, Args: []api.Expr{p.expression(rankNot)}}, rankNot
	case p.begins(api.OpNeg):
		return api.Expr{Op: api.OpNeg, Args: []api.Expr{p.expression(rankNegation)}}, rankNegation
	}
	return p.primary(), rankHighest
}

// choice reads what stands behind if.
func (p *parser) choice() api.Expr {
	condition := p.expression(rankIf)
	p.requires(api.TkWord, "then")
	chosen := p.expression(rankIf)
	p.requires(api.TkWord, "else")
	otherwise := p.expression(rankIf)
	return api.Expr{Op: api.OpIf, Args: []api.Expr{condition, chosen, otherwise}}
}

// primary reads an expression with the highest rank.
func (p *parser) primary() api.Expr {
	switch {
	case p.accepts(api.TkMark, "("):
		e := p.expression(rankIf)
		p.requires(api.TkMark, ")")
		return e
	case p.accepts(api.TkMark, "$"):
		return api.Expr{Op: api.OpCash, N: p.number()}
	case p.begins(api.OpMin):
		return api.Expr{Op: api.OpMin, Args: p.pair()}
	case p.begins(api.OpMax):
		return api.Expr{Op: api.OpMax, Args: p.pair()}
	}
	return p.single()
}

// pair reads two operands in parentheses.
func (p *parser) pair() []api.Expr {
	p.requires(api.TkMark, "(")
	first := p.expression(rankIf)
	p.requires(api.TkMark, ",")
	second := p.expression(rankIf)
	p.requires(api.TkMark, ")")
	return []api.Expr{first, second}
}

// single reads an expression of a single token.
func (p *parser) single() api.Expr {
	switch t := p.next(); t.Kind {
	case api.TkRate:
		return api.Expr{Op: api.OpRate, N: p.rate()}
	case api.TkName:
		p.at++
		return api.Expr{Op: api.OpVar, S: t.Text}
	}
	return api.Expr{Op: api.OpNum, N: p.number()}
}

// rate reads a percentage, and returns its parts per million.
func (p *parser) rate() int {
	ppm, problem := token.Rate(p.next().Text)
	if problem != api.OK {
		p.fail()
	}
	p.at++
	return ppm
}

// number reads an int from 0 on.
func (p *parser) number() int {
	t := p.next()
	n, err := strconv.Atoi(t.Text)
	// Atoi accepts other forms of a number, too.
	if t.Kind != api.TkNum || err != nil || n < 0 || strconv.Itoa(n) != t.Text {
		p.fail()
	}
	p.at++
	return n
}
