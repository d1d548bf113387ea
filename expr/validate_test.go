package expr_test

import (
	"math"
	"slices"
	"strings"
	"testing"

	"corebank/api"
	"corebank/expr"
)

// requires requires a result of Validate, for an expression alone and for it as each operand of every operator.
func requires(t *testing.T, e api.Expr, want api.Errno) {
	t.Helper()
	if problem := expr.Validate(e); problem != want {
		t.Errorf("Validate(%.200s) is %d; want %d", show(e), problem, want)
	}
	_, composed := operators()
	for _, op := range composed {
		for i := range arity(op) {
			operands := []api.Expr{name("a"), num(2), cash(3)}[:arity(op)]
			operands = slices.Clone(operands)
			operands[i] = e
			if problem := expr.Validate(node(op, operands...)); problem != want {
				t.Errorf("Validate(%.200s) is %d; want %d", show(node(op, operands...)), problem, want)
			}
		}
	}
}

// P10.3
func TestValidate(t *testing.T) {
	for _, e := range leaves() {
		requires(t, e, api.OK)
	}
	for _, s := range []string{"not not a", "- - a", "a - - b", "if a then b else c", "min ( a , max ( a , a ) )", "a + $ 5 * 1.5% / 2 == 7 or a != b and a < b and a <= 1"} {
		e, _, _ := parsed(lex(s), 0)
		requires(t, e, api.OK)
	}
}

// P10.3: N.
func TestValidateN(t *testing.T) {
	for _, n := range []int{0, 1, api.MaxPpm, api.MaxAmount, api.MaxAmount + 1, math.MaxInt} {
		requires(t, num(n), api.OK)
	}
	for _, n := range []int{0, 1, api.MaxPpm + 1, api.MaxAmount - 1, api.MaxAmount} {
		requires(t, cash(n), api.OK)
	}
	for _, n := range []int{0, 1, api.MaxPpm - 1, api.MaxPpm} {
		requires(t, rate(n), api.OK)
	}
	for _, n := range []int{api.MaxAmount + 1, api.MaxAmount * 2, math.MaxInt} {
		requires(t, cash(n), api.ErrArg)
	}
	for _, n := range []int{api.MaxPpm + 1, api.MaxAmount, math.MaxInt} {
		requires(t, rate(n), api.ErrArg)
	}
	for _, n := range []int{-1, -2, -api.MaxPpm, -api.MaxAmount, math.MinInt, math.MinInt + 1} {
		requires(t, num(n), api.ErrArg)
		requires(t, cash(n), api.ErrArg)
		requires(t, rate(n), api.ErrArg)
	}
	// Operators that do not use N.
	all, _ := operators()
	for _, op := range all {
		if op == api.OpNum || op == api.OpCash || op == api.OpRate {
			continue
		}
		for _, n := range []int{1, -1, 15000, math.MaxInt, math.MinInt} {
			e := api.Expr{Op: op, N: n, Args: []api.Expr{name("a"), name("b"), name("c")}[:arity(op)]}
			if op == api.OpVar {
				e.S = "a"
			}
			requires(t, e, api.ErrArg)
		}
	}
}

// P10.3: S.
func TestValidateS(t *testing.T) {
	all, _ := operators()
	for _, op := range all {
		for _, s := range []string{"a", "balance", "if", "1", " ", "A", "\x00", "é", strings.Repeat("a", 100)} {
			e := api.Expr{Op: op, S: s, Args: []api.Expr{name("a"), name("b"), name("c")}[:arity(op)]}
			switch {
			case op != api.OpVar:
				requires(t, e, api.ErrArg)
			case s == "a" || s == "balance":
				requires(t, e, api.OK)
			default:
				requires(t, e, api.ErrName)
			}
		}
	}
}

// P10.3: names of variables.
func TestValidateNames(t *testing.T) {
	for _, s := range []string{"a", "z", "a0", "a_", "x1", "orx", "iff", "min_", "minmax", "and_or_not", "product1", "month_", "months", "abcdefghijklmnop", "z_______________", "a000000000000009", "balance", "lowest", "volume", "amount", "count", "age", "day", "true"} {
		requires(t, name(s), api.OK)
	}
	for _, s := range words {
		requires(t, name(s), api.ErrName)
		checkValidate(t, name(s+"x"))
		checkValidate(t, name(s[1:]))
	}
	for _, s := range []string{"", " ", "_", "_a", "1", "1a", "A", "aB", "Min", "a b", "a ", " a", "a\n", "\na", "\ta", "a#", "a# b", "#", "a\x00", "a\r", "a.b", "a%", "a-b", "a+", "+", "(", "é", "aé", "\xff", "a\xff", "abcdefghijklmnopq", "a0000000000000000", strings.Repeat("a", 2048), strings.Repeat("a", 2049), strings.Repeat("a ", 5000), strings.Repeat("\n", 2048) + "a", "1.5%", "ａ"} {
		requires(t, name(s), api.ErrName)
	}
	for b := range 256 {
		c := string([]byte{byte(b)})
		for _, s := range []string{c, "a" + c, c + "a", "a" + c + "b", "abcdefghijklmno" + c, "abcdefghijklmnop" + c} {
			checkValidate(t, name(s))
		}
	}
}

// P10.3: operators that do not exist, and wrong numbers of operands.
func TestValidateOperators(t *testing.T) {
	operands := slices.Repeat([]api.Expr{num(1)}, 5)
	for _, op := range []int{0, -1, -2, -5, -19, 20, 21, 100, 255, 256, 1<<32 + 1, 1<<32 + api.OpAdd, -1 << 32, math.MaxInt, math.MinInt, math.MinInt + api.OpAdd} {
		for count := range 5 {
			requires(t, node(op, operands[:count]...), api.ErrArg)
		}
		requires(t, api.Expr{Op: op, S: "a"}, api.ErrArg)
		requires(t, api.Expr{Op: op, N: 1}, api.ErrArg)
	}
	all, _ := operators()
	if len(all) != 19 {
		t.Fatalf("there are %d operators", len(all))
	}
	for _, op := range all {
		for count := range 6 {
			e := node(op, operands[:count]...)
			if op == api.OpVar {
				e.S = "a"
			}
			want := api.ErrArg
			if count == arity(op) {
				want = api.OK
			}
			requires(t, e, want)
		}
	}
	e := api.Expr{Op: api.OpNum, Args: []api.Expr{}}
	requires(t, e, api.OK)
}

// P10.3: the order of the errors, wherever they are.
func TestValidateOrder(t *testing.T) {
	wrong := []api.Expr{num(-1), node(api.OpNot), node(0), api.Expr{Op: api.OpVar, N: 1, S: "if"}, api.Expr{Op: api.OpVar, S: "A", Args: []api.Expr{num(1)}}, api.Expr{Op: api.OpNum, S: "if"}, cash(api.MaxAmount + 1)}
	for _, e := range wrong {
		misnamed := name("if")
		requires(t, e, api.ErrArg)
		requires(t, node(api.OpAdd, misnamed, e), api.ErrArg)
		requires(t, node(api.OpAdd, e, misnamed), api.ErrArg)
		requires(t, node(api.OpIf, misnamed, node(api.OpMul, misnamed, node(api.OpNeg, e)), misnamed), api.ErrArg)
		for _, other := range []api.Expr{e, misnamed} {
			requires(t, node(api.OpAdd, other, bushy(70)), api.ErrLimit)
			requires(t, node(api.OpAdd, bushy(70), other), api.ErrLimit)
			requires(t, node(99, bushy(64), other), api.ErrLimit)
			deep := other
			for range 8 {
				deep = node(api.OpNeg, deep)
			}
			requires(t, deep, api.ErrLimit)
			requires(t, node(api.OpMin, other, deep), api.ErrLimit)
		}
	}
	// Too many operands can be too many nodes.
	for count := 60; count <= 66; count++ {
		want := api.ErrArg
		if count+1 > 64 {
			want = api.ErrLimit
		}
		e := node(api.OpAdd, slices.Repeat([]api.Expr{name("if")}, count)...)
		if problem := expr.Validate(e); problem != want {
			t.Errorf("Validate of %d operands is %d; want %d", count, problem, want)
		}
	}
}

// P10.3: depth.
func TestValidateDepth(t *testing.T) {
	_, composed := operators()
	for _, op := range composed {
		for i := range arity(op) {
			e := name("a")
			for depth := 1; depth <= 12; depth++ {
				want := api.OK
				if depth > 8 {
					want = api.ErrLimit
				}
				if problem := expr.Validate(e); problem != want {
					t.Errorf("Validate of depth %d is %d; want %d", depth, problem, want)
				}
				checkValidate(t, e)
				operands := slices.Repeat([]api.Expr{num(1)}, arity(op))
				operands[i] = e
				e = node(op, operands...)
			}
		}
	}
}

// P10.3: one field of one node of an expression is replaced.
func TestValidateChanged(t *testing.T) {
	random := seeded()
	counts := map[api.Errno]int{}
	for range 20000 {
		e := valid(random)
		for range 1 + random.IntN(2) {
			e = changed(e, random.IntN(expr.Nodes(e)), func(e api.Expr) api.Expr {
				switch random.IntN(5) {
				case 0:
					e.Op = random.IntN(23) - 1
				case 1:
					e.N = []int{0, 1, -1, api.MaxPpm, api.MaxPpm + 1, api.MaxAmount, api.MaxAmount + 1, math.MaxInt, math.MinInt}[random.IntN(9)]
				case 2:
					e.S = []string{"", "a", "if", "A", "abcdefghijklmnop", "abcdefghijklmnopq", "1"}[random.IntN(7)]
				case 3:
					e.Args = append(slices.Clone(e.Args), grown(random, 1+random.IntN(3)))
				default:
					e.Args = e.Args[:random.IntN(len(e.Args)+1)]
				}
				return e
			})
		}
		checkValidate(t, e)
		counts[expr.Validate(e)]++
	}
	for _, problem := range []api.Errno{api.OK, api.ErrArg, api.ErrName, api.ErrLimit} {
		if counts[problem] < 50 {
			t.Errorf("the errors are %v", counts)
		}
	}
}

// P0.1: expressions that are far too large are refused at once.
func TestValidateLarge(t *testing.T) {
	deep, wide := name("a"), name("a")
	for range 1 << 16 {
		deep = node(api.OpNeg, deep)
	}
	for range 60 {
		// The operands are the same memory, but so many nodes.
		wide = node(api.OpAdd, wide, wide)
	}
	many := node(api.OpAdd, make([]api.Expr, 1<<20)...)
	for _, e := range []api.Expr{deep, wide, many, node(api.OpIf, many, deep, wide)} {
		if problem := expr.Validate(e); problem != api.ErrLimit {
			t.Errorf("Validate is %d", problem)
		}
		if l, problem := expr.Tokens(e); len(l) != 0 || problem != api.ErrLimit {
			t.Errorf("Tokens is %d tokens, %d", len(l), problem)
		}
	}
}
