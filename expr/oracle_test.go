package expr_test

import (
	"fmt"
	"math"
	"math/rand/v2"
	"regexp"
	"slices"
	"strings"
	"testing"

	"corebank/api"
	"corebank/expr"
	"corebank/token"
)

// seeded gives the same numbers in every run.
func seeded() *rand.Rand { return rand.New(rand.NewPCG(10, 10)) }

// words are the reserved words of chapter 9.
var words = strings.Split("product, currency, calendar, from, every, overdraft, tax, credit, debit, marginal, whole, act360, act365, actual, thirty, down, up, floor, ceil, half_up, half_even, keep, drop, fee, limit, when, amount_of, single, daily, monthly, month, return, close, event, if, then, else, and, or, not, min, max", ", ")

// The forms of names and of the decimal form of a number from 0 on.
var (
	named   = regexp.MustCompile(`^[a-z][a-z0-9_]{0,15}\z`)
	decimal = regexp.MustCompile(`^(?:0|[1-9][0-9]*)\z`)
)

// signs are the tokens of the operators that have one; those of one text are told apart by the grammar.
var signs = map[int]string{
	api.OpAdd: "+", api.OpSub: "-", api.OpMul: "*", api.OpDiv: "/", api.OpNeg: "-", api.OpEq: "==", api.OpNe: "!=", api.OpLt: "<", api.OpLe: "<=",
	api.OpAnd: "and", api.OpOr: "or", api.OpNot: "not", api.OpMin: "min", api.OpMax: "max", api.OpIf: "if",
}

// node returns an expression with operands.
func node(op int, operands ...api.Expr) api.Expr { return api.Expr{Op: op, Args: operands} }

// num, cash, rate and name return expressions of one node.
func num(n int) api.Expr     { return api.Expr{Op: api.OpNum, N: n} }
func cash(n int) api.Expr    { return api.Expr{Op: api.OpCash, N: n} }
func rate(n int) api.Expr    { return api.Expr{Op: api.OpRate, N: n} }
func name(s string) api.Expr { return api.Expr{Op: api.OpVar, S: s} }

// of returns a token in line 1.
func of(kind int, text string) api.Token { return api.Token{Kind: kind, Line: 1, Text: text} }

// lex returns the tokens of a text.
func lex(s string) []api.Token {
	l, line, problem := token.Tokenize(s)
	if problem != api.OK {
		panic(fmt.Sprintf("Tokenize(%q) is %d in line %d", s, problem, line))
	}
	return l
}

// show returns a text that differs for any two different expressions.
func show(e api.Expr) string {
	s := fmt.Sprintf("(%d %d %q", e.Op, e.N, e.S)
	for _, operand := range e.Args {
		s += show(operand)
	}
	return s + ")"
}

// texts returns the texts of tokens.
func texts(l []api.Token) string {
	var s []string
	for _, t := range l {
		s = append(s, t.Text)
	}
	return strings.Join(s, " ")
}

// arity returns the number of operands of an operator, or -1 if there is no such operator.
func arity(op int) int {
	switch op {
	case api.OpNum, api.OpCash, api.OpRate, api.OpVar:
		return 0
	case api.OpNeg, api.OpNot:
		return 1
	case api.OpIf:
		return 3
	case api.OpAdd, api.OpSub, api.OpMul, api.OpDiv, api.OpEq, api.OpNe, api.OpLt, api.OpLe, api.OpAnd, api.OpOr, api.OpMin, api.OpMax:
		return 2
	}
	return -1
}

// operators are all operators, and composed those with operands.
func operators() (all, composed []int) {
	for op := -5; op <= 30; op++ {
		if arity(op) >= 0 {
			all = append(all, op)
		}
		if arity(op) > 0 {
			composed = append(composed, op)
		}
	}
	return all, composed
}

// spread returns the nodes of an expression, and its depth.
func spread(e api.Expr) ([]api.Expr, int) {
	l, deepest := []api.Expr{e}, 0
	for _, operand := range e.Args {
		nodes, depth := spread(operand)
		l, deepest = append(l, nodes...), max(deepest, depth)
	}
	return l, deepest + 1
}

// malformed reports whether a node has a field that leads to ErrArg.
func malformed(e api.Expr) bool {
	usesN := e.Op == api.OpNum || e.Op == api.OpCash || e.Op == api.OpRate
	switch {
	case arity(e.Op) < 0 || arity(e.Op) != len(e.Args):
		return true
	case !usesN && e.N != 0 || e.Op != api.OpVar && e.S != "":
		return true
	case e.N < 0 || e.Op == api.OpCash && e.N > 1000000000000 || e.Op == api.OpRate && e.N > 1000000:
		return true
	}
	return false
}

// validated is what Validate returns.
func validated(e api.Expr) api.Errno {
	nodes, depth := spread(e)
	misnamed := func(e api.Expr) bool {
		return e.Op == api.OpVar && (!named.MatchString(e.S) || slices.Contains(words, e.S))
	}
	switch {
	case len(nodes) > 64 || depth > 8:
		return api.ErrLimit
	case slices.ContainsFunc(nodes, malformed):
		return api.ErrArg
	case slices.ContainsFunc(nodes, misnamed):
		return api.ErrName
	}
	return api.OK
}

// reading is an expression that is read, and the index behind it.
type reading struct {
	e    api.Expr
	next int
}

// place is a rule of the grammar, applied at an index.
type place struct {
	rule string
	at   int
}

// reader finds every way to read tokens by the chapter's grammar. The tokens before the index most are the beginning of an expression, and it was tried in vain to go on there.
type reader struct {
	tokens []api.Token
	most   int
	known  map[place][]reading
}

// has reports whether a token is at an index.
func (r *reader) has(at, kind int, text string) bool {
	r.most = max(r.most, at)
	return at < len(r.tokens) && r.tokens[at].Kind == kind && r.tokens[at].Text == text
}

// mark and word report whether a mark or a word is at an index.
func (r *reader) mark(at int, text string) bool { return r.has(at, api.TkMark, text) }
func (r *reader) word(at int, text string) bool { return r.has(at, api.TkWord, text) }

// read returns all ways to apply a rule at an index.
func (r *reader) read(rule string, at int) []reading {
	here := place{rule, at}
	if l, ok := r.known[here]; ok {
		return l
	}
	l := r.ways(rule, at)
	r.known[here] = l
	return l
}

// ways is the grammar.
func (r *reader) ways(rule string, at int) []reading {
	switch rule {
	case "expr":
		return append(r.choices(at), r.read("or", at)...)
	case "or":
		return r.joined("and", at, map[string]int{"or": api.OpOr})
	case "and":
		return r.joined("not", at, map[string]int{"and": api.OpAnd})
	case "not":
		if r.word(at, "not") {
			return r.wrapped("not", at+1, api.OpNot)
		}
		return r.read("cmp", at)
	case "cmp":
		return r.compared(at)
	case "sum":
		return r.joined("prod", at, map[string]int{"+": api.OpAdd, "-": api.OpSub})
	case "prod":
		return r.joined("neg", at, map[string]int{"*": api.OpMul, "/": api.OpDiv})
	case "neg":
		if r.mark(at, "-") {
			return r.wrapped("neg", at+1, api.OpNeg)
		}
		return r.primary(at)
	}
	panic(rule)
}

// choices reads if expr then expr else expr.
func (r *reader) choices(at int) []reading {
	if !r.word(at, "if") {
		return nil
	}
	var l []reading
	for _, a := range r.read("expr", at+1) {
		if !r.word(a.next, "then") {
			continue
		}
		for _, b := range r.read("expr", a.next+1) {
			if !r.word(b.next, "else") {
				continue
			}
			for _, c := range r.read("expr", b.next+1) {
				l = append(l, reading{node(api.OpIf, a.e, b.e, c.e), c.next})
			}
		}
	}
	return l
}

// wrapped reads the operand of an operator.
func (r *reader) wrapped(rule string, at, op int) []reading {
	var l []reading
	for _, a := range r.read(rule, at) {
		l = append(l, reading{node(op, a.e), a.next})
	}
	return l
}

// joined reads any number of operands with signs between them.
func (r *reader) joined(rule string, at int, ops map[string]int) []reading {
	l := slices.Clone(r.read(rule, at))
	for i := 0; i < len(l); i++ {
		for sign, op := range ops {
			kind := api.TkMark
			if slices.Contains(words, sign) {
				kind = api.TkWord
			}
			if r.has(l[i].next, kind, sign) {
				for _, b := range r.read(rule, l[i].next+1) {
					l = append(l, reading{node(op, l[i].e, b.e), b.next})
				}
			}
		}
	}
	return l
}

// compared reads one sum, or two of them with a sign between them.
func (r *reader) compared(at int) []reading {
	l := slices.Clone(r.read("sum", at))
	for _, a := range r.read("sum", at) {
		for _, op := range []int{api.OpEq, api.OpNe, api.OpLt, api.OpLe} {
			if r.mark(a.next, signs[op]) {
				for _, b := range r.read("sum", a.next+1) {
					l = append(l, reading{node(op, a.e, b.e), b.next})
				}
			}
		}
	}
	return l
}

// primary reads what has the highest rank.
func (r *reader) primary(at int) []reading {
	r.most = max(r.most, at)
	var l []reading
	if at < len(r.tokens) {
		switch t := r.tokens[at]; t.Kind {
		case api.TkNum:
			if n, ok := counted(t); ok {
				l = append(l, reading{num(n), at + 1})
			}
		case api.TkRate:
			if ppm, problem := token.Rate(t.Text); problem == api.OK {
				l = append(l, reading{rate(ppm), at + 1})
			}
		case api.TkName:
			l = append(l, reading{name(t.Text), at + 1})
		}
	}
	if r.mark(at, "$") {
		r.most = max(r.most, at+1)
		if at+1 < len(r.tokens) {
			if n, ok := counted(r.tokens[at+1]); ok {
				l = append(l, reading{cash(n), at + 2})
			}
		}
	}
	if r.mark(at, "(") {
		for _, a := range r.read("expr", at+1) {
			if r.mark(a.next, ")") {
				l = append(l, reading{a.e, a.next + 1})
			}
		}
	}
	return append(append(l, r.pairs(at, api.OpMin)...), r.pairs(at, api.OpMax)...)
}

// pairs reads min ( expr , expr ), or the same with max.
func (r *reader) pairs(at, op int) []reading {
	if !r.word(at, signs[op]) || !r.mark(at+1, "(") {
		return nil
	}
	var l []reading
	for _, a := range r.read("expr", at+2) {
		if !r.mark(a.next, ",") {
			continue
		}
		for _, b := range r.read("expr", a.next+1) {
			if r.mark(b.next, ")") {
				l = append(l, reading{node(op, a.e, b.e), b.next + 1})
			}
		}
	}
	return l
}

// counted returns the number of a token, and whether it is NUMBER.
func counted(t api.Token) (int, bool) {
	if t.Kind != api.TkNum || !decimal.MatchString(t.Text) {
		return 0, false
	}
	var n uint64
	if _, err := fmt.Sscan(t.Text, &n); err != nil || n > math.MaxInt {
		return 0, false
	}
	return int(n), true
}

// parsed is what Parse returns. If the tokens before most are an expression, it is the longest one; otherwise the one at most cannot be there.
func parsed(l []api.Token, at int) (api.Expr, int, api.Errno) {
	if at < 0 || at > len(l) {
		return api.Expr{}, at, api.ErrSyntax
	}
	r := &reader{tokens: l, most: at, known: map[place][]reading{}}
	var longest []api.Expr
	for _, found := range r.read("expr", at) {
		if found.next == r.most {
			longest = append(longest, found.e)
		}
	}
	switch len(longest) {
	case 0:
		return api.Expr{}, r.most, api.ErrSyntax
	case 1:
		if problem := validated(longest[0]); problem != api.OK {
			return api.Expr{}, at, problem
		}
		return longest[0], r.most, api.OK
	}
	panic("the grammar has two ways to read " + texts(l))
}

// rank is the rank of an operator, by its place in the chapter's list.
func rank(op int) int {
	for i, ops := range [][]int{{api.OpIf}, {api.OpOr}, {api.OpAnd}, {api.OpNot}, {api.OpEq, api.OpNe, api.OpLt, api.OpLe}, {api.OpAdd, api.OpSub}, {api.OpMul, api.OpDiv}, {api.OpNeg}} {
		if slices.Contains(ops, op) {
			return i
		}
	}
	return 8
}

// printed is the text of the tokens of a valid expression, with single spaces.
func printed(e api.Expr) string {
	operand := func(i, least int) string {
		if rank(e.Args[i].Op) < least {
			return "( " + printed(e.Args[i]) + " )"
		}
		return printed(e.Args[i])
	}
	own := rank(e.Op)
	switch e.Op {
	case api.OpNum:
		return fmt.Sprint(e.N)
	case api.OpCash:
		return fmt.Sprint("$ ", e.N)
	case api.OpRate:
		s, _ := token.Percent(e.N)
		return s
	case api.OpVar:
		return e.S
	case api.OpIf:
		return "if " + operand(0, 0) + " then " + operand(1, 0) + " else " + operand(2, 0)
	case api.OpMin, api.OpMax:
		return signs[e.Op] + " ( " + operand(0, 0) + " , " + operand(1, 0) + " )"
	case api.OpNot, api.OpNeg:
		return signs[e.Op] + " " + operand(0, own)
	case api.OpEq, api.OpNe, api.OpLt, api.OpLe:
		return operand(0, own+1) + " " + signs[e.Op] + " " + operand(1, own+1)
	}
	return operand(0, own) + " " + signs[e.Op] + " " + operand(1, own+1)
}

// checkParse compares Parse with the chapter.
func checkParse(t *testing.T, l []api.Token, at int) {
	t.Helper()
	want, place, expected := parsed(l, at)
	if e, next, problem := expr.Parse(l, at); show(e) != show(want) || next != place || problem != expected {
		t.Errorf("Parse(%.200s, %d) is %s, %d, %d; want %s, %d, %d", texts(l), at, show(e), next, problem, show(want), place, expected)
	}
}

// checkValidate compares Validate and Tokens with the chapter.
func checkValidate(t *testing.T, e api.Expr) {
	t.Helper()
	before, want := show(e), validated(e)
	if problem := expr.Validate(e); problem != want {
		t.Errorf("Validate(%.200s) is %d; want %d", before, problem, want)
	}
	var expected []api.Token
	if want == api.OK {
		expected = lex(printed(e))
	}
	if l, problem := expr.Tokens(e); !slices.Equal(l, expected) || problem != want {
		t.Errorf("Tokens(%.200s) is %s, %d; want %s, %d", before, texts(l), problem, texts(expected), want)
	}
	if show(e) != before {
		t.Errorf("%.200s was changed", before)
	}
}

// reads requires an expression and the index behind it.
func reads(t *testing.T, l []api.Token, at int, want api.Expr, behind int) {
	t.Helper()
	if e, next, problem := expr.Parse(l, at); show(e) != show(want) || next != behind || problem != api.OK {
		t.Errorf("Parse(%.200s, %d) of %d tokens is %.200s, %d, %d; want %.200s, %d", texts(l), at, len(l), show(e), next, problem, show(want), behind)
	}
}

// refused requires an error with an index, and no expression.
func refused(t *testing.T, l []api.Token, at, index int, want api.Errno) {
	t.Helper()
	if e, next, problem := expr.Parse(l, at); show(e) != show(api.Expr{}) || next != index || problem != want {
		t.Errorf("Parse(%.200s, %d) of %d tokens is %.200s, %d, %d; want %d, %d", texts(l), at, len(l), show(e), next, problem, index, want)
	}
}

// written requires tokens of an expression, and the expression of the tokens.
func written(t *testing.T, e api.Expr, want string) {
	t.Helper()
	if l, problem := expr.Tokens(e); !slices.Equal(l, lex(want)) || problem != api.OK {
		t.Errorf("Tokens(%s) is %s, %d; want %s", show(e), texts(l), problem, want)
	}
	reads(t, lex(want), 0, e, len(lex(want)))
}

// leaves are expressions of one node.
func leaves() []api.Expr {
	return []api.Expr{
		num(0), num(1), num(12), num(math.MaxInt), cash(0), cash(5), cash(999), cash(api.MaxAmount), rate(0), rate(1), rate(15000), rate(api.MaxPpm),
		name("a"), name("b"), name("z_0123456789_aaz"), name("balance"), name("orx"), name("iff"), name("min_"), name("abcdefghijklmnop"),
	}
}

// grown returns a valid expression of at most depth levels, picked at random.
func grown(random *rand.Rand, depth int) api.Expr {
	_, composed := operators()
	if depth == 1 || random.IntN(6) == 0 {
		all := leaves()
		return all[random.IntN(len(all))]
	}
	e := api.Expr{Op: composed[random.IntN(len(composed))]}
	for range arity(e.Op) {
		e.Args = append(e.Args, grown(random, depth-1))
	}
	return e
}

// valid returns a valid expression, picked at random.
func valid(random *rand.Rand) api.Expr {
	for {
		if e := grown(random, 1+random.IntN(api.MaxDepth)); validated(e) == api.OK {
			return e
		}
	}
}

// nested are all expressions of one operator with others at one of its places, and with others in turn at one of theirs.
func nested() []api.Expr {
	_, composed := operators()
	with := func(inner []api.Expr) []api.Expr {
		var l []api.Expr
		for _, op := range composed {
			for _, e := range inner {
				for i := range arity(op) {
					operands := []api.Expr{name("a"), num(2), cash(3)}[:arity(op)]
					operands = slices.Clone(operands)
					operands[i] = e
					l = append(l, node(op, operands...))
				}
			}
		}
		return l
	}
	one := with([]api.Expr{name("b")})
	two := with(one)
	return slices.Concat(leaves(), one, two, with(two))
}

// changed returns a copy of an expression in which the node with a number, counted from the root, is replaced.
func changed(e api.Expr, at int, change func(api.Expr) api.Expr) api.Expr {
	var visit func(api.Expr) api.Expr
	visit = func(e api.Expr) api.Expr {
		at--
		found := at == -1
		operands := slices.Clone(e.Args)
		for i := range operands {
			operands[i] = visit(operands[i])
		}
		e.Args = operands
		if found {
			return change(e)
		}
		return e
	}
	return visit(e)
}
