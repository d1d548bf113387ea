package expr_test

import (
	"math"
	"slices"
	"testing"

	"corebank/api"
	"corebank/expr"
	"corebank/token"
)

// P10.2: each operator alone, and all constants.
func TestTokens(t *testing.T) {
	a, b, c := name("a"), name("b"), name("c")
	for s, e := range map[string]api.Expr{
		"0": num(0), "12": num(12), "9223372036854775807": num(math.MaxInt), "$ 0": cash(0), "$ 250": cash(250), "$ 1000000000000": cash(api.MaxAmount), "0%": rate(0), "0.0001%": rate(1), "1.5%": rate(15000), "100%": rate(api.MaxPpm), "a": a, "balance": name("balance"),
		"a + b": node(api.OpAdd, a, b), "a - b": node(api.OpSub, a, b), "a * b": node(api.OpMul, a, b), "a / b": node(api.OpDiv, a, b), "- a": node(api.OpNeg, a), "a == b": node(api.OpEq, a, b), "a != b": node(api.OpNe, a, b), "a < b": node(api.OpLt, a, b), "a <= b": node(api.OpLe, a, b), "a and b": node(api.OpAnd, a, b), "a or b": node(api.OpOr, a, b), "not a": node(api.OpNot, a), "min ( a , b )": node(api.OpMin, a, b), "max ( a , b )": node(api.OpMax, a, b), "if a then b else c": node(api.OpIf, a, b, c),
	} {
		written(t, e, s)
	}
}

// P10.2: parentheses, exactly where they are required.
func TestTokensParentheses(t *testing.T) {
	a, b, c := name("a"), name("b"), name("c")
	choice := node(api.OpIf, a, b, c)
	for s, e := range map[string]api.Expr{
		"not not a": node(api.OpNot, node(api.OpNot, a)), "- - a": node(api.OpNeg, node(api.OpNeg, a)), "- a * b": node(api.OpMul, node(api.OpNeg, a), b), "- ( a * b )": node(api.OpNeg, node(api.OpMul, a, b)), "a - - b": node(api.OpSub, a, node(api.OpNeg, b)), "a * - b": node(api.OpMul, a, node(api.OpNeg, b)), "not a == b": node(api.OpNot, node(api.OpEq, a, b)), "( not a ) == b": node(api.OpEq, node(api.OpNot, a), b), "a == ( not b )": node(api.OpEq, a, node(api.OpNot, b)), "- ( not a )": node(api.OpNeg, node(api.OpNot, a)), "not - a": node(api.OpNot, node(api.OpNeg, a)),
		"a + b - c": node(api.OpSub, node(api.OpAdd, a, b), c), "a + ( b - c )": node(api.OpAdd, a, node(api.OpSub, b, c)), "a + ( b + c )": node(api.OpAdd, a, node(api.OpAdd, b, c)), "a * b / c": node(api.OpDiv, node(api.OpMul, a, b), c), "a * ( b * c )": node(api.OpMul, a, node(api.OpMul, b, c)), "a + b * c": node(api.OpAdd, a, node(api.OpMul, b, c)), "a * ( b + c )": node(api.OpMul, a, node(api.OpAdd, b, c)),
		"a and b and c": node(api.OpAnd, node(api.OpAnd, a, b), c), "a and ( b and c )": node(api.OpAnd, a, node(api.OpAnd, b, c)), "a or b or c": node(api.OpOr, node(api.OpOr, a, b), c), "a or ( b or c )": node(api.OpOr, a, node(api.OpOr, b, c)), "a or b and c": node(api.OpOr, a, node(api.OpAnd, b, c)), "( a or b ) and c": node(api.OpAnd, node(api.OpOr, a, b), c), "a and not b": node(api.OpAnd, a, node(api.OpNot, b)), "not a and b": node(api.OpAnd, node(api.OpNot, a), b), "not ( a and b )": node(api.OpNot, node(api.OpAnd, a, b)),
		"( a < b ) < c": node(api.OpLt, node(api.OpLt, a, b), c), "a == ( b != c )": node(api.OpEq, a, node(api.OpNe, b, c)), "a < b + c": node(api.OpLt, a, node(api.OpAdd, b, c)), "( a < b ) + c": node(api.OpAdd, node(api.OpLt, a, b), c), "a < b and b <= c": node(api.OpAnd, node(api.OpLt, a, b), node(api.OpLe, b, c)),
		"if if a then b else c then if a then b else c else if a then b else c": node(api.OpIf, choice, choice, choice), "min ( if a then b else c , if a then b else c )": node(api.OpMin, choice, choice), "max ( a or b , a < b )": node(api.OpMax, node(api.OpOr, a, b), node(api.OpLt, a, b)), "( if a then b else c ) or ( if a then b else c )": node(api.OpOr, choice, choice), "not ( if a then b else c )": node(api.OpNot, choice), "( if a then b else c ) + 1": node(api.OpAdd, choice, num(1)), "1 * ( if a then b else c )": node(api.OpMul, num(1), choice), "- min ( a , b )": node(api.OpNeg, node(api.OpMin, a, b)), "if a or b then a + b else not c": node(api.OpIf, node(api.OpOr, a, b), node(api.OpAdd, a, b), node(api.OpNot, c)),
	} {
		written(t, e, s)
	}
}

// P10.2, P10.7: each operator below each other one and below that, at all places; what reads it again gives the same expression.
func TestNested(t *testing.T) {
	all := nested()
	if len(all) < 20000 {
		t.Fatalf("there are only %d expressions", len(all))
	}
	for i, e := range all {
		checkValidate(t, e)
		l, _ := expr.Tokens(e)
		reads(t, l, 0, e, len(l))
		if i%7 == 0 {
			checkParse(t, l, 0)
		}
	}
}

// P10.2: all tokens are in line 1, and those of a definition.
func TestTokensAreJoined(t *testing.T) {
	random := seeded()
	for range 2000 {
		e := valid(random)
		l, _ := expr.Tokens(e)
		s, problem := token.Join(l)
		if s != printed(e) || problem != api.OK {
			t.Fatalf("Tokens(%s) is %v: Join gives %q, %d; want %q", show(e), l, s, problem, printed(e))
		}
		for _, one := range l {
			if one.Line != 1 {
				t.Fatalf("Tokens(%s) is %v", show(e), l)
			}
		}
	}
}

// P10.7
func TestRestored(t *testing.T) {
	random := seeded()
	followers := lex("a 1 1.5% $ ( ) { } , ; : if then else not min max amount_of")
	followers = append(followers, of(0, ""), of(api.TkName, "+"), of(api.TkWord, "<="), of(api.TkMark, "and"))
	for range 5000 {
		e := valid(random)
		l, problem := expr.Tokens(e)
		if problem != api.OK {
			t.Fatalf("Tokens(%s) is %d", show(e), problem)
		}
		reads(t, l, 0, e, len(l))
		more := append(slices.Clone(l), followers[random.IntN(len(followers))])
		reads(t, more, 0, e, len(l))
		reads(t, append(more, l...), 0, e, len(l))
		before := lex("else 1 (")
		reads(t, append(before, more...), len(before), e, len(before)+len(l))
	}
}

// pairs returns the indexes of the parentheses of each pair.
func pairs(l []api.Token) [][2]int {
	var open []int
	var found [][2]int
	for i, one := range l {
		switch one {
		case of(api.TkMark, "("):
			open = append(open, i)
		case of(api.TkMark, ")"):
			found = append(found, [2]int{open[len(open)-1], i})
			open = open[:len(open)-1]
		}
	}
	return found
}

// P10.8
func TestNoSparePairs(t *testing.T) {
	random := seeded()
	some := nested()
	for range 5000 {
		some = append(some, valid(random))
	}
	tried := 0
	for _, e := range some {
		l, _ := expr.Tokens(e)
		for _, pair := range pairs(l) {
			tried++
			fewer := slices.Concat(l[:pair[0]], l[pair[0]+1:pair[1]], l[pair[1]+1:])
			read, next, problem := expr.Parse(fewer, 0)
			if problem == api.OK && next == len(fewer) && show(read) == show(e) {
				t.Fatalf("%s has two tokens too many: %s", texts(l), texts(fewer))
			}
		}
	}
	if tried < 10000 {
		t.Errorf("there are only %d pairs", tried)
	}
}

// P10.2: the error of Validate, and no tokens.
func TestTokensRefused(t *testing.T) {
	for _, c := range []struct {
		e    api.Expr
		want api.Errno
	}{
		{api.Expr{}, api.ErrArg}, {name("min"), api.ErrName}, {name(""), api.ErrName}, {num(-1), api.ErrArg}, {cash(api.MaxAmount + 1), api.ErrArg}, {rate(api.MaxPpm + 1), api.ErrArg}, {node(api.OpAdd, name("a")), api.ErrArg}, {node(api.OpNot), api.ErrArg}, {node(api.OpIf, name("a"), name("b")), api.ErrArg}, {node(20), api.ErrArg}, {bushy(65), api.ErrLimit},
	} {
		for _, e := range []api.Expr{c.e, node(api.OpNeg, c.e), node(api.OpMax, num(1), c.e)} {
			if l, problem := expr.Tokens(e); len(l) != 0 || problem != c.want {
				t.Errorf("Tokens(%s) is %s, %d; want %d", show(e), texts(l), problem, c.want)
			}
		}
	}
}
