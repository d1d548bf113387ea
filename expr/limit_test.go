package expr_test

import (
	"slices"
	"testing"

	"corebank/api"
	"corebank/expr"
)

// repeated returns a list of tokens with others before and behind, each a number of times.
func repeated(before string, count int, middle, behind string) []api.Token {
	return slices.Concat(slices.Repeat(lex(before), count), lex(middle), slices.Repeat(lex(behind), count))
}

// P10.1, P10.3: depth.
func TestParseDepth(t *testing.T) {
	for _, c := range []struct{ before, middle, behind string }{
		{"-", "a", ""}, {"not", "a", ""}, {"", "a", "+ b"}, {"", "a", "- b"}, {"", "a", "* b"}, {"", "a", "/ b"}, {"", "a", "and b"}, {"", "a", "or b"}, {"a + (", "b", ")"}, {"min ( a ,", "b", ")"}, {"max (", "b", ", 1 )"}, {"( a <", "b", ")"}, {"if a then b else", "c", ""}, {"if", "a", "then b else c"}, {"if a then", "b", "else c"},
	} {
		for count := 1; count <= 7; count++ {
			l := repeated(c.before, count, c.middle, c.behind)
			e, next, problem := expr.Parse(l, 0)
			if _, depth := spread(e); depth != count+1 || next != len(l) || problem != api.OK {
				t.Errorf("Parse(%s, 0) is %s, %d, %d", texts(l), show(e), next, problem)
			}
			checkParse(t, l, 0)
			checkValidate(t, e)
		}
		for _, count := range []int{8, 9, 20, 100} {
			l := repeated(c.before, count, c.middle, c.behind)
			refused(t, l, 0, 0, api.ErrLimit)
			refused(t, append(lex("a ; b"), l...), 3, 3, api.ErrLimit)
			// A wrong token counts first, wherever it is.
			refused(t, append(lex("a ; b ("), append(l, lex("or ,")...)...), 3, len(l)+5, api.ErrSyntax)
			refused(t, append(slices.Clone(l), lex("or")...), 0, len(l)+1, api.ErrSyntax)
		}
	}
}

// P10.1: parentheses are no part of the tree.
func TestParseParentheses(t *testing.T) {
	for _, count := range []int{1, 8, 9, 63, 64, 65, 1000, 1 << 16} {
		l := repeated("(", count, "a + 1", ")")
		reads(t, l, 0, node(api.OpAdd, name("a"), num(1)), len(l))
		reads(t, append(slices.Clone(l), lex(")")...), 0, node(api.OpAdd, name("a"), num(1)), len(l))
		refused(t, l[:len(l)-1], 0, len(l)-1, api.ErrSyntax)
		refused(t, l[:count], 0, count, api.ErrSyntax)
		refused(t, l[:count+2], 0, count+2, api.ErrSyntax)
		l[len(l)-1] = of(api.TkMark, ",")
		refused(t, l, 0, len(l)-1, api.ErrSyntax)
	}
}

// P10.1: lists that lead to very large trees.
func TestParseLongLists(t *testing.T) {
	for _, count := range []int{1000, 1 << 16} {
		for _, s := range []string{"-", "not", "- (", "not (", "if a then b else", "if a then", "if", "a + (", "min ("} {
			l := slices.Repeat(lex(s), count)
			refused(t, l, 0, len(l), api.ErrSyntax)
		}
		refused(t, repeated("-", count, "a", ""), 0, 0, api.ErrLimit)
		refused(t, repeated("not", count, "a", ""), 0, 0, api.ErrLimit)
		refused(t, repeated("if a then b else", count, "a", ""), 0, 0, api.ErrLimit)
		refused(t, repeated("a - (", count, "a", ")"), 0, 0, api.ErrLimit)
		for _, s := range []string{"+ b", "* 1", "and $ 2", "or not - 1.5%"} {
			l := repeated("", count, "a", s)
			refused(t, l, 0, 0, api.ErrLimit)
			refused(t, append(l, lex("+")...), 0, len(l)+1, api.ErrSyntax)
		}
	}
}

// bushy returns an expression with a number of nodes, from 64 to 127, of 7 levels.
func bushy(nodes int) api.Expr {
	left := nodes - 63
	var grow func(depth int) api.Expr
	grow = func(depth int) api.Expr {
		if depth == 6 {
			// Two nodes more for a sum, and one more for a negation.
			switch {
			case left >= 2:
				left -= 2
				return node(api.OpAdd, name("a"), num(1))
			case left == 1:
				left--
				return node(api.OpNeg, name("a"))
			}
			return name("b")
		}
		return node(api.OpMul, grow(depth+1), grow(depth+1))
	}
	return grow(1)
}

// P10.1 to P10.4: MaxNodes nodes, and more.
func TestNodesLimit(t *testing.T) {
	for nodes := 63; nodes <= 127; nodes++ {
		e := bushy(nodes)
		if count := expr.Nodes(e); count != nodes {
			t.Fatalf("there are %d nodes; want %d", count, nodes)
		}
		checkValidate(t, e)
		l := lex(printed(e))
		if nodes <= 64 {
			reads(t, l, 0, e, len(l))
			continue
		}
		refused(t, l, 0, 0, api.ErrLimit)
		refused(t, append(lex("a ;"), l...), 2, 2, api.ErrLimit)
	}
}
