package expr_test

import (
	"math"
	"slices"
	"strings"
	"testing"

	"corebank/api"
	"corebank/expr"
)

// strange are expressions that are not valid.
func strange() []api.Expr {
	return []api.Expr{
		{}, {Op: -1}, {Op: 99, N: -5, S: "if"}, {Op: math.MinInt, Args: []api.Expr{{}, {}, {}}}, {Op: api.OpVar}, {Op: api.OpVar, S: "A b"}, {Op: api.OpVar, S: "\xff", N: 7, Args: []api.Expr{name("z"), name("a"), {Op: api.OpVar}}}, {Op: api.OpNum, S: "a"}, {Op: api.OpNum, Args: []api.Expr{name("min"), node(0, name("x"))}}, node(api.OpAdd), node(api.OpIf, name("b"), name("a"), name("b"), name("c")), node(api.OpNot, make([]api.Expr, 100)...), bushy(100), node(api.OpNeg, bushy(127)),
	}
}

// P10.4
func TestNodes(t *testing.T) {
	for s, want := range map[string]int{"a": 1, "$ 5": 1, "1.5%": 1, "- 1": 2, "( ( a ) )": 1, "a + b": 3, "a + a + a": 5, "not not a": 3, "if a then b else c": 4, "min ( a , - b )": 4, "a or b and not c == 1 * - 2": 11} {
		e, _, _ := parsed(lex(s), 0)
		if count := expr.Nodes(e); count != want {
			t.Errorf("Nodes of %s is %d; want %d", s, count, want)
		}
	}
	random := seeded()
	for _, e := range slices.Concat(strange(), nested()[:5000], []api.Expr{valid(random), valid(random), valid(random)}) {
		before := show(e)
		nodes, _ := spread(e)
		if count := expr.Nodes(e); count != len(nodes) {
			t.Errorf("Nodes(%s) is %d; want %d", before, count, len(nodes))
		}
		if show(e) != before {
			t.Errorf("Nodes changed %s", before)
		}
	}
}

// P10.5
func TestNames(t *testing.T) {
	for s, want := range map[string]string{
		"1": "", "$ 5": "", "1.5%": "", "- 1 * 2": "", "if 1 < 2 then 1.5% else $ 0": "", "a": "a", "a + a": "a", "b + a": "a b", "b + a + b * a": "a b", "c - ( a - b )": "a b c", "if c then b else a": "a b c", "min ( b , max ( a , b ) )": "a b", "not z or - y": "y z", "a10 + a2 + a1 + a + a_ + b": "a a1 a10 a2 a_ b",
	} {
		e, _, _ := parsed(lex(s), 0)
		if l := expr.Names(e); strings.Join(l, " ") != want || len(l) != len(strings.Fields(want)) {
			t.Errorf("Names of %s is %q; want %s", s, l, want)
		}
	}
	random := seeded()
	some := strange()
	for range 3000 {
		some = append(some, valid(random))
	}
	for _, e := range some {
		before := show(e)
		l := expr.Names(e)
		nodes, _ := spread(e)
		expected := map[string]bool{}
		for _, one := range nodes {
			if one.Op == api.OpVar {
				expected[one.S] = true
			}
		}
		for i, s := range l {
			if !expected[s] || i > 0 && l[i-1] >= s {
				t.Errorf("Names(%s) is %q", before, l)
			}
		}
		if len(l) != len(expected) || show(e) != before {
			t.Errorf("Names(%s) is %q", before, l)
		}
	}
	// Of texts that are no names, too.
	if l := expr.Names(node(api.OpAdd, name("if"), name(""), name("\xff"), node(api.OpVar, name("A")))); !slices.Equal(l, []string{"", "A", "\xff", "if"}) && !slices.Equal(l, []string{"", "A", "if", "\xff"}) {
		t.Errorf("Names is %q", l)
	}
}

// P10.6
func TestSame(t *testing.T) {
	random := seeded()
	some := append(strange(), leaves()...)
	for range 300 {
		some = append(some, valid(random))
	}
	for _, a := range some {
		for _, b := range some {
			if want := show(a) == show(b); expr.Same(a, b) != want {
				t.Errorf("Same(%s, %s) is %t", show(a), show(b), !want)
			}
		}
		copied := changed(a, 0, func(e api.Expr) api.Expr { return e })
		if before := show(a); !expr.Same(a, copied) || !expr.Same(copied, a) || show(a) != before {
			t.Errorf("Same(%s, %s) is false", before, show(copied))
		}
	}
}

// P10.6: a single difference, at any node.
func TestSameChanged(t *testing.T) {
	random := seeded()
	for range 1000 {
		e := valid(random)
		for at := range expr.Nodes(e) {
			for _, change := range []func(api.Expr) api.Expr{
				func(e api.Expr) api.Expr { e.Op++; return e },
				func(e api.Expr) api.Expr { e.Op += 1 << 32; return e },
				func(e api.Expr) api.Expr { e.N--; return e },
				func(e api.Expr) api.Expr { e.N ^= math.MinInt; return e },
				func(e api.Expr) api.Expr { e.S += "a"; return e },
				func(e api.Expr) api.Expr { e.S += "\x00"; return e },
				func(e api.Expr) api.Expr { e.Args = append(e.Args, api.Expr{}); return e },
				func(e api.Expr) api.Expr { e.Args = append(e.Args, e); return e },
			} {
				other := changed(e, at, change)
				if expr.Same(e, other) || expr.Same(other, e) {
					t.Fatalf("Same(%s, %s) is true", show(e), show(other))
				}
			}
		}
	}
	a, b := name("a"), name("b")
	for _, pair := range [][2]api.Expr{{node(api.OpAdd, a, b), node(api.OpAdd, b, a)}, {node(api.OpAdd, a, b), node(api.OpAdd, a)}, {node(api.OpAdd, a), node(api.OpAdd)}, {num(0), {Op: api.OpNum, Args: []api.Expr{{}}}}, {num(5), cash(5)}, {a, {Op: api.OpVar, S: "A"}}, {name(""), {}}, {node(api.OpSub, a, node(api.OpSub, a, b)), node(api.OpSub, node(api.OpSub, a, b), a)}} {
		if expr.Same(pair[0], pair[1]) || expr.Same(pair[1], pair[0]) {
			t.Errorf("Same(%s, %s) is true", show(pair[0]), show(pair[1]))
		}
	}
	// Without operands, nil or not.
	if e := (api.Expr{Op: api.OpNum, Args: []api.Expr{}}); !expr.Same(e, num(0)) || !expr.Same(num(0), e) || !expr.Same(node(api.OpNeg, e), node(api.OpNeg, num(0))) {
		t.Error("nil and an empty list of operands differ")
	}
}

// P0.1: any depth.
func TestDeep(t *testing.T) {
	deep, other := name("a"), name("b")
	for range 1 << 16 {
		deep, other = node(api.OpSub, deep, num(1)), node(api.OpSub, other, num(1))
	}
	if count := expr.Nodes(deep); count != 1<<17+1 {
		t.Errorf("Nodes is %d", count)
	}
	if l := expr.Names(deep); !slices.Equal(l, []string{"a"}) {
		t.Errorf("Names is %q", l)
	}
	if !expr.Same(deep, deep) || expr.Same(deep, other) {
		t.Error("Same is wrong")
	}
}

// P0.4: the results of two calls share nothing, nor do the parts of one.
func TestNothingShared(t *testing.T) {
	l := lex("if a < 1 then min ( b , 2 ) else - c + c")
	want := show(node(api.OpIf, node(api.OpLt, name("a"), num(1)), node(api.OpMin, name("b"), num(2)), node(api.OpAdd, node(api.OpNeg, name("c")), name("c"))))
	first, _, _ := expr.Parse(l, 0)
	second, _, _ := expr.Parse(l, 0)
	tokens, _ := expr.Tokens(first)
	names := expr.Names(first)
	for i := range l {
		l[i] = of(api.TkMark, ";")
	}
	_ = append(first.Args[0].Args[:1], num(99))
	_ = append(first.Args[:3], num(99))
	if show(second) != want || strings.Contains(show(first.Args[1]), "99") || strings.Contains(show(first.Args[2]), "99") {
		t.Errorf("the expressions are %s and %s", show(first), show(second))
	}
	first.Args[1] = num(7)
	tokens[0], names[0] = of(0, ""), "x"
	again, _ := expr.Tokens(second)
	if show(second) != want || texts(again) != "if a < 1 then min ( b , 2 ) else - c + c" || !slices.Equal(expr.Names(second), []string{"a", "b", "c"}) {
		t.Errorf("the second expression is %s, %s, %q", show(second), texts(again), expr.Names(second))
	}
}
