package expr_test

import (
	"math"
	"math/rand/v2"
	"slices"
	"strconv"
	"strings"
	"testing"

	"corebank/api"
	"corebank/expr"
	"corebank/token"
)

// The chapter's examples.
func TestExamples(t *testing.T) {
	a, b, c := name("a"), name("b"), name("c")
	written(t, node(api.OpAdd, a, node(api.OpMul, b, num(2))), "a + b * 2")
	written(t, node(api.OpMul, node(api.OpAdd, a, b), c), "( a + b ) * c")
	written(t, node(api.OpSub, a, node(api.OpSub, b, c)), "a - ( b - c )")
	reads(t, lex("a < b < c"), 0, node(api.OpLt, a, b), 3)
	refused(t, lex("a +"), 0, 2, api.ErrSyntax)
	written(t, node(api.OpIf, a, cash(5), rate(15000)), "if a then $ 5 else 1.5%")
	if problem := expr.Validate(name("min")); problem != api.ErrName {
		t.Errorf("Validate of the variable min is %d", problem)
	}
}

// P10.1: each operator alone, with the tokens of the grammar.
func TestParseOperators(t *testing.T) {
	for _, e := range leaves() {
		reads(t, lex(printed(e)), 0, e, len(lex(printed(e))))
	}
	for s, op := range map[string]int{
		"a + 2": api.OpAdd, "a - 2": api.OpSub, "a * 2": api.OpMul, "a / 2": api.OpDiv, "a == 2": api.OpEq, "a != 2": api.OpNe, "a < 2": api.OpLt, "a <= 2": api.OpLe, "a and 2": api.OpAnd, "a or 2": api.OpOr, "min ( a , 2 )": api.OpMin, "max ( a , 2 )": api.OpMax,
	} {
		reads(t, lex(s), 0, node(op, name("a"), num(2)), len(lex(s)))
	}
	reads(t, lex("- a"), 0, node(api.OpNeg, name("a")), 2)
	reads(t, lex("not a"), 0, node(api.OpNot, name("a")), 2)
	reads(t, lex("if a then 2 else b"), 0, node(api.OpIf, name("a"), num(2), name("b")), 6)
}

// P10.1: what binds more than what, and what is joined from the left.
func TestParseRanks(t *testing.T) {
	a, b, c := name("a"), name("b"), name("c")
	for s, want := range map[string]api.Expr{
		"not not a": node(api.OpNot, node(api.OpNot, a)), "- - a": node(api.OpNeg, node(api.OpNeg, a)), "- a * b": node(api.OpMul, node(api.OpNeg, a), b), "a * - b": node(api.OpMul, a, node(api.OpNeg, b)), "- a + b": node(api.OpAdd, node(api.OpNeg, a), b),
		"a - - b": node(api.OpSub, a, node(api.OpNeg, b)), "a - - - b": node(api.OpSub, a, node(api.OpNeg, node(api.OpNeg, b))), "not a == b": node(api.OpNot, node(api.OpEq, a, b)), "( not a ) == b": node(api.OpEq, node(api.OpNot, a), b), "not a and b": node(api.OpAnd, node(api.OpNot, a), b), "not ( a and b )": node(api.OpNot, node(api.OpAnd, a, b)),
		"a - b - c": node(api.OpSub, node(api.OpSub, a, b), c), "a - b + c": node(api.OpAdd, node(api.OpSub, a, b), c), "a / b / c": node(api.OpDiv, node(api.OpDiv, a, b), c), "a / b * c": node(api.OpMul, node(api.OpDiv, a, b), c), "a and b and c": node(api.OpAnd, node(api.OpAnd, a, b), c), "a or b or c": node(api.OpOr, node(api.OpOr, a, b), c),
		"a or b and c": node(api.OpOr, a, node(api.OpAnd, b, c)), "a and b or c": node(api.OpOr, node(api.OpAnd, a, b), c), "a * b + c": node(api.OpAdd, node(api.OpMul, a, b), c), "a < b + c": node(api.OpLt, a, node(api.OpAdd, b, c)), "a + b <= c": node(api.OpLe, node(api.OpAdd, a, b), c), "a and b != c": node(api.OpAnd, a, node(api.OpNe, b, c)), "a == b or c": node(api.OpOr, node(api.OpEq, a, b), c),
		"( a )": a, "( ( ( a ) ) )": a, "( a + b ) + c": node(api.OpAdd, node(api.OpAdd, a, b), c), "( a < b ) < c": node(api.OpLt, node(api.OpLt, a, b), c), "a < ( b < c )": node(api.OpLt, a, node(api.OpLt, b, c)),
		"if a then b else c + a": node(api.OpIf, a, b, node(api.OpAdd, c, a)), "( if a then b else c ) + a": node(api.OpAdd, node(api.OpIf, a, b, c), a), "a or ( if a then b else c )": node(api.OpOr, a, node(api.OpIf, a, b, c)), "( if a then b else c ) or a": node(api.OpOr, node(api.OpIf, a, b, c), a),
		"if if a then b else c then a else b": node(api.OpIf, node(api.OpIf, a, b, c), a, b), "if a then if b then c else a else b": node(api.OpIf, a, node(api.OpIf, b, c, a), b), "if a then b else if c then a else b": node(api.OpIf, a, b, node(api.OpIf, c, a, b)),
		"min ( if a then b else c , max ( a , if c then b else a ) )": node(api.OpMin, node(api.OpIf, a, b, c), node(api.OpMax, a, node(api.OpIf, c, b, a))), "- min ( a , b ) * c": node(api.OpMul, node(api.OpNeg, node(api.OpMin, a, b)), c), "- ( a * b )": node(api.OpNeg, node(api.OpMul, a, b)),
		"a + a * a - a": node(api.OpSub, node(api.OpAdd, a, node(api.OpMul, a, a)), a), "$ 1 * 1.5% - 2": node(api.OpSub, node(api.OpMul, cash(1), rate(15000)), num(2)),
	} {
		reads(t, lex(s), 0, want, len(lex(s)))
		reads(t, lex("( "+s+" )"), 0, want, len(lex(s))+2)
	}
}

// P10.1: an expression ends before a token that cannot continue it.
func TestParseEnds(t *testing.T) {
	a, b := name("a"), name("b")
	enders := lex("a 1 1.5% $ ( ) { } , ; : if then else not min max fee when amount_of")
	enders = append(enders, of(0, ""), of(0, "+"), of(api.TkWord, "+"), of(api.TkName, "and"), of(api.TkMark, "or"), of(api.TkWord, "a"), of(api.TkMark, ""), of(-1, "*"), of(6, "=="), of(api.TkMark, "="), of(api.TkMark, ">"), of(api.TkMark, "a"), of(api.TkNum, "-"), of(api.TkRate, "/"))
	for _, s := range []string{"a", "1", "$ 1", "1.5%", "- a", "not a", "a + b", "a * b", "a < b", "a and b", "a or b", "min ( a , b )", "( a )", "if a then b else a", "a == b or not b"} {
		l := lex(s)
		want, next, _ := parsed(l, 0)
		if next != len(l) {
			t.Fatalf("%s is no expression", s)
		}
		for _, ender := range enders {
			reads(t, append(slices.Clone(l), ender), 0, want, len(l))
			reads(t, append(slices.Clone(l), ender, ender, ender), 0, want, len(l))
		}
	}
	// Comparisons are not joined.
	for _, s := range []string{"==", "!=", "<", "<="} {
		reads(t, lex("a < b "+s+" a"), 0, node(api.OpLt, a, b), 3)
		reads(t, lex("a == b "+s), 0, node(api.OpEq, a, b), 3)
		reads(t, lex("not a < b "+s+" a"), 0, node(api.OpNot, node(api.OpLt, a, b)), 4)
		reads(t, lex("a and a < b "+s+" a"), 0, node(api.OpAnd, a, node(api.OpLt, a, b)), 5)
		reads(t, lex("if a then b else a < b "+s+" a"), 0, node(api.OpIf, a, b, node(api.OpLt, a, b)), 8)
		refused(t, lex("( a < b "+s+" a )"), 0, 4, api.ErrSyntax)
		refused(t, lex("min ( a < b "+s+" a , b )"), 0, 5, api.ErrSyntax)
		refused(t, lex("if a < b "+s+" a then a else b"), 0, 4, api.ErrSyntax)
	}
}

// P10.1: at.
func TestParseAt(t *testing.T) {
	l := lex("a + b * 2")
	b, two := name("b"), num(2)
	reads(t, l, 0, node(api.OpAdd, name("a"), node(api.OpMul, b, two)), 5)
	refused(t, l, 1, 1, api.ErrSyntax)
	reads(t, l, 2, node(api.OpMul, b, two), 5)
	refused(t, l, 3, 3, api.ErrSyntax)
	reads(t, l, 4, two, 5)
	for _, at := range []int{5, 6, 7, -1, -2, -5, -6, 1 << 32, 1<<32 + 4, -1 << 32, math.MaxInt, math.MaxInt - 1, math.MinInt, math.MinInt + 1} {
		refused(t, l, at, at, api.ErrSyntax)
	}
	for _, at := range []int{0, 1, -1, 2, math.MaxInt, math.MinInt} {
		refused(t, nil, at, at, api.ErrSyntax)
		refused(t, []api.Token{}, at, at, api.ErrSyntax)
	}
	// What stands before at does not matter, and the index counts it.
	random := seeded()
	for range 2000 {
		l := lex(printed(valid(random)))
		for at := range len(l) + 1 {
			want, next, expected := expr.Parse(l[at:], 0)
			if e, index, problem := expr.Parse(l, at); show(e) != show(want) || index != at+next || problem != expected {
				t.Fatalf("Parse(%s, %d) is %s, %d, %d; want %s, %d, %d", texts(l), at, show(e), index, problem, show(want), at+next, expected)
			}
		}
	}
}

// P10.1: lines do not matter.
func TestParseLines(t *testing.T) {
	l := lex("if a then $ 5 else - b * 1.5% < min ( a , 7 ) or not c")
	want, next, _ := parsed(l, 0)
	for _, step := range []int{0, 1, -1, 7, math.MaxInt, math.MinInt} {
		for i := range l {
			l[i].Line = i * step
		}
		reads(t, l, 0, want, next)
	}
}

// P10.1: tokens that end too early.
func TestParseTooShort(t *testing.T) {
	for _, s := range []string{
		"", "if", "if a", "if a then", "if a then b", "if a then b else", "if if a then b else c", "a or", "a and", "a or b and", "not", "not not", "a ==", "a !=", "a <", "a <=", "a +", "a -", "a *", "a /", "-", "- -", "a - -", "$", "- $", "a + $", "min", "max", "min (", "max ( a", "min ( a ,", "max ( a , b", "(", "( (", "( a", "( a +", "( ( a )", "a + ( b", "not ( a == b", "if a then b else ( c", "min ( min ( a , b )", "min ( min ( a , b ) ,", "( min ( a , b )", "a or not", "a == - $", "if not",
	} {
		refused(t, lex(s), 0, len(lex(s)), api.ErrSyntax)
	}
	// Each beginning of an expression is read in part, or ends too early.
	random := seeded()
	for range 300 {
		l := lex(printed(valid(random)))
		for size := range len(l) {
			checkParse(t, l[:size], 0)
		}
	}
}

// P10.1: the first token that cannot be there.
func TestParseWrongToken(t *testing.T) {
	for s, index := range map[string]int{
		")": 0, "then": 0, "else": 0, "and": 0, "or": 0, "+": 0, "* a": 0, "/": 0, "==": 0, "<= a": 0, ",": 0, ";": 0, "{": 0, ": a": 0, "fee": 0, "product x": 0,
		"if )": 1, "if then a else b": 1, "if a b": 2, "if a else b": 2, "if a ) b": 2, "if a < b < c then a": 4, "if a then )": 3, "if a then else b": 3, "if a then b then": 4, "if a then b )": 4, "if a then b c": 4, "if a then b else )": 5, "if a then b else then": 5, "if a then b else else": 5,
		"a or )": 2, "a or or b": 2, "a or if a then b else c": 2, "a or and b": 2, "a and )": 2, "a and if a then b else c": 2, "a and then": 2, "not )": 1, "not or": 1, "not if a then b else c": 1, "not and a": 1,
		"a == )": 2, "a == == b": 2, "a < not b": 2, "a != if b then c else a": 2, "a <= : b": 2, "a + )": 2, "a + + b": 2, "a + not b": 2, "a - if b then c else a": 2, "a * )": 2, "a * * b": 2, "a / not b": 2, "a * if b then c else a": 2, "- )": 1, "- + a": 1, "- not a": 1, "- if a then b else c": 1, "- * a": 1,
		"$ )": 1, "$ a": 1, "$ 1.5%": 1, "$ $ 1": 1, "$ - 1": 1, "$ ( 1 )": 1, "$ min ( 1 , 2 )": 1, "min )": 1, "min a": 1, "min 1": 1, "min min ( a , b )": 1, "max ,": 1, "min ( )": 2, "min ( , a )": 2, "min ( a )": 3, "min ( a b )": 3, "min ( a ; b )": 3, "max ( a , )": 4, "max ( a , , b )": 4, "max ( a , b , c )": 5, "max ( a , b c": 5, "min ( a < b < c , a )": 5,
		"( )": 1, "( then": 1, "( a ,": 2, "( a b )": 2, "( a , b )": 2, "( ( a ) b": 4, "( a < b < c )": 4, "( a ) + )": 4, "( a + )": 3, "not a == not b": 3, "a + b * )": 4, "a - - )": 3, "a or not not )": 4, "- ( - ) a": 3,
	} {
		l := lex(s)
		refused(t, l, 0, index, api.ErrSyntax)
		// What follows does not matter.
		refused(t, append(slices.Clone(l), lex(") + a ,")...), 0, index, api.ErrSyntax)
		refused(t, append(lex("; a"), l...), 2, index+2, api.ErrSyntax)
	}
}

// P10.1: every token at every place.
func TestParseEachToken(t *testing.T) {
	var all []api.Token
	for _, s := range append(slices.Clone(words), strings.Fields("{ } ( ) , ; : $ + - * / == != <= < a abcdefghijklmnop 0 7 9223372036854775807 0% 1.5% 100%")...) {
		all = append(all, lex(s)...)
	}
	for _, s := range []string{"", "-1", "01", "+1", "9223372036854775808", "1.50%", "101%", "if", "(", "+", "a", "min", "abcdefghijklmnopq", "=", "A"} {
		for kind := -1; kind <= 6; kind++ {
			all = append(all, of(kind, s))
		}
	}
	for _, s := range []string{"if a then b else c", "a or b and not c", "not a == b + c", "- a * b - $ 5 / 2", "min ( a , b ) < max ( 1 , 2.5% )", "( a ) != ( b )", "a + ( if b then - c else 7 )"} {
		l := lex(s)
		for at := range len(l) + 1 {
			for _, other := range all {
				checkParse(t, slices.Insert(slices.Clone(l), at, other), 0)
				if at < len(l) {
					replaced := slices.Clone(l)
					replaced[at] = other
					checkParse(t, replaced, 0)
				}
			}
			checkParse(t, l[:at], 0)
			checkParse(t, l, at)
		}
	}
}

// P10.1: all short lists of tokens that matter together.
func TestParseShortLists(t *testing.T) {
	for s, most := range map[string]int{
		"a - not < and ( )": 6, "a or if then else +": 6, "min ( a , ) *": 6, "a $ 1 - / 1.5%": 5, "a == != or and not": 5, "a b 1 1.5% $ + - * / == < <= and or not min max if then else ( ) , ;": 3,
	} {
		alphabet := lex(s)
		lists := [][]api.Token{nil}
		for range most {
			var longer [][]api.Token
			for _, l := range lists {
				for _, one := range alphabet {
					longer = append(longer, append(slices.Clone(l), one))
				}
			}
			for _, l := range longer {
				checkParse(t, l, 0)
			}
			lists = longer
		}
	}
}

// altered returns tokens with some of them removed, doubled, replaced or added.
func altered(random *rand.Rand, l []api.Token) []api.Token {
	alphabet := lex("a 1 $ 1.5% + - * / == != < <= and or not min max ( ( ( ) ) ) , if then else ; fee")
	l = slices.Clone(l)
	for range 1 + random.IntN(3) {
		at, other := random.IntN(len(l)+1), alphabet[random.IntN(len(alphabet))]
		switch choice := random.IntN(3); {
		case at == len(l) || choice == 0:
			l = slices.Insert(l, at, other)
		case choice == 1:
			l[at] = other
		default:
			l = slices.Delete(l, at, at+1)
		}
	}
	return l
}

// P10.1: lists of tokens that are nearly expressions.
func TestParseNearlyExpressions(t *testing.T) {
	random := seeded()
	counts := map[api.Errno]int{}
	for range 6000 {
		l := altered(random, lex(printed(valid(random))))
		before := slices.Clone(l)
		checkParse(t, l, random.IntN(len(l)+1))
		checkParse(t, l, 0)
		_, _, problem := expr.Parse(l, 0)
		counts[problem]++
		if !slices.Equal(l, before) {
			t.Fatalf("%s was changed", texts(before))
		}
	}
	if counts[api.OK] < 500 || counts[api.ErrSyntax] < 500 || counts[api.ErrLimit] < 1 {
		t.Errorf("the errors are %v", counts)
	}
}

// P10.1: NUMBER.
func TestParseNumbers(t *testing.T) {
	for _, n := range []int{0, 1, 9, 10, 360, 1 << 32, api.MaxAmount, math.MaxInt - 1, math.MaxInt} {
		reads(t, []api.Token{of(api.TkNum, strconv.Itoa(n))}, 0, num(n), 1)
	}
	for _, s := range []string{"", "-1", "-0", "+1", "+0", "00", "01", "0x1", "1_000", "1e3", "1.0", "1 ", " 1", "1%", "a", "1a", "if", "+", "١", "1\x00", "9223372036854775808", "9223372036854775809", "18446744073709551616", "18446744073709551617", "-9223372036854775808", "-9223372036854775807", strings.Repeat("9", 10000), strings.Repeat("0", 10000), "0" + strconv.Itoa(math.MaxInt)} {
		refused(t, []api.Token{of(api.TkNum, s)}, 0, 0, api.ErrSyntax)
		refused(t, []api.Token{of(api.TkMark, "$"), of(api.TkNum, s)}, 0, 1, api.ErrSyntax)
		refused(t, []api.Token{of(api.TkName, "a"), of(api.TkMark, "+"), of(api.TkNum, s)}, 0, 2, api.ErrSyntax)
		reads(t, []api.Token{of(api.TkName, "a"), of(api.TkNum, s)}, 0, name("a"), 1)
	}
	for _, n := range []int{0, 1, api.MaxAmount - 1, api.MaxAmount} {
		reads(t, []api.Token{of(api.TkMark, "$"), of(api.TkNum, strconv.Itoa(n))}, 0, cash(n), 2)
	}
	// Such an amount has the right form, but is not valid.
	for _, n := range []int{api.MaxAmount + 1, 1 << 62, math.MaxInt} {
		refused(t, append(lex("a ; - $"), of(api.TkNum, strconv.Itoa(n))), 2, 2, api.ErrArg)
	}
}

// P10.1: RATE.
func TestParseRates(t *testing.T) {
	for _, ppm := range []int{0, 1, 9999, 10000, 15000, 999999, api.MaxPpm} {
		s, _ := token.Percent(ppm)
		reads(t, []api.Token{of(api.TkRate, s)}, 0, rate(ppm), 1)
	}
	for _, s := range []string{"", "%", "1", "1.5", "0.00001%", "1.50%", "01%", "-1%", "+1%", "1% ", "a", "100.0001%", "101%", "1000%", strings.Repeat("9", 10000) + "%", "$", "9223372036854775808%"} {
		refused(t, []api.Token{of(api.TkRate, s)}, 0, 0, api.ErrSyntax)
		refused(t, append(lex("a or"), of(api.TkRate, s)), 0, 2, api.ErrSyntax)
	}
}

// P10.1: tokens of another kind than their text has.
func TestParseKinds(t *testing.T) {
	for kind := -1; kind <= 6; kind++ {
		for _, s := range append(strings.Fields("( ) , $ + - * / == != < <= ; a 1 1.5%"), words...) {
			one := of(kind, s)
			checkParse(t, []api.Token{one}, 0)
			checkParse(t, []api.Token{one, of(api.TkName, "a")}, 0)
			checkParse(t, []api.Token{one, of(api.TkNum, "1")}, 0)
			checkParse(t, []api.Token{of(api.TkName, "a"), one, of(api.TkName, "a")}, 0)
			if kind == lex(s)[0].Kind {
				continue
			}
			if kind == api.TkName {
				// It is read as NAME, whatever the text is.
				refused(t, []api.Token{one}, 0, 0, api.ErrName)
				refused(t, []api.Token{of(api.TkMark, "-"), one}, 0, 0, api.ErrName)
				continue
			}
			refused(t, []api.Token{one}, 0, 0, api.ErrSyntax)
			refused(t, []api.Token{of(api.TkMark, "-"), one}, 0, 1, api.ErrSyntax)
		}
	}
}
