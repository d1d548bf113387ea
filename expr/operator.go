package expr

import (
	"math"

	"corebank/api"
)

// The ranks of operators, from the lowest one. They have no gaps: the rank above another one is greater by 1.
const (
	rankIf = iota + 1
	rankOr
	rankAnd
	rankNot
	rankCompare
	rankSum
	rankProduct
	rankNegation
	rankHighest
)

// operator says how many operands an operator has, its rank, and the kind and the text of the token that is written for it, if it has operands.
type operator struct {
	operands, rank, kind int
	text                 string
}

// operators lists the operators by their numbers.
var operators = [...]operator{
	api.OpNum:  {0, rankHighest, 0, ""},
	api.OpCash: {0, rankHighest, 0, ""},
	api.OpRate: {0, rankHighest, 0, ""},
	api.OpVar:  {0, rankHighest, 0, ""},
	api.OpAdd:  {2, rankSum, api.TkMark, "+"},
	api.OpSub:  {2, rankSum, api.TkMark, "-"},
	api.OpMul:  {2, rankProduct, api.TkMark, "*"},
	api.OpDiv:  {2, rankProduct, api.TkMark, "/"},
	api.OpNeg:  {1, rankNegation, api.TkMark, "-"},
	api.OpEq:   {2, rankCompare, api.TkMark, "=="},
	api.OpNe:   {2, rankCompare, api.TkMark, "!="},
	api.OpLt:   {2, rankCompare, api.TkMark, "<"},
	api.OpLe:   {2, rankCompare, api.TkMark, "<="},
	api.OpAnd:  {2, rankAnd, api.TkWord, "and"},
	api.OpOr:   {2, rankOr, api.TkWord, "or"},
	api.OpNot:  {1, rankNot, api.TkWord, "not"},
	api.OpMin:  {2, rankHighest, api.TkWord, "min"},
	api.OpMax:  {2, rankHighest, api.TkWord, "max"},
	api.OpIf:   {3, rankIf, api.TkWord, "if"},
}

// between reports whether an operator is written between its two operands.
func (o operator) between() bool { return o.operands == 2 && o.rank < rankHighest }

// leftRank returns the least rank of the left operand of an operator that is written between its operands.
func (o operator) leftRank() int {
	if o.rank == rankCompare {
		// Comparisons are not joined.
		return o.rank + 1
	}
	return o.rank
}

// rightRank returns the least rank of the right operand. It is higher, because operands are joined from the left.
func (o operator) rightRank() int { return o.rank + 1 }

// greatest returns the greatest N of an operator: 0, if it does not use N.
func greatest(op int) int {
	switch op {
	case api.OpNum:
		return math.MaxInt
	case api.OpCash:
		return api.MaxAmount
	case api.OpRate:
		return api.MaxPpm
	}
	return 0
}
