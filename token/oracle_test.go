package token_test

import (
	"math/big"
	"math/rand/v2"
	"regexp"
	"slices"
	"strings"
	"testing"

	"corebank/api"
	"corebank/token"
)

// seeded gives the same numbers in every run.
func seeded() *rand.Rand { return rand.New(rand.NewPCG(9, 9)) }

// words and marks are those of the chapter, in its order.
var (
	words = strings.Split("product, currency, calendar, from, every, overdraft, tax, credit, debit, marginal, whole, act360, act365, actual, thirty, down, up, floor, ceil, half_up, half_even, keep, drop, fee, limit, when, amount_of, single, daily, monthly, month, return, close, event, if, then, else, and, or, not, min, max", ", ")
	marks = strings.Fields("{ } ( ) , ; : $ + - * / == != < <=")
)

// The texts between tokens, the longest sequences with which tokens begin, and the forms of numbers and percentages.
var (
	between    = regexp.MustCompile(`^(?:[ \t\n]|#[^\n]*)`)
	named      = regexp.MustCompile(`^[a-z][a-z0-9_]*`)
	counted    = regexp.MustCompile(`^[0-9][a-z0-9_.%]*`)
	marked     = regexp.MustCompile(`^(?:==|!=|<=|[{}(),;:$+*/<-])`)
	decimal    = regexp.MustCompile(`^(?:0|[1-9][0-9]*)\z`)
	percentage = regexp.MustCompile(`^(?:0|[1-9][0-9]*)(?:\.[0-9]{0,3}[1-9])?%\z`)
)

// exactPpm returns the parts per million of a text with the form of a percentage, of any size.
func exactPpm(s string) *big.Int {
	value, _ := new(big.Rat).SetString(strings.TrimSuffix(s, "%"))
	return value.Mul(value, big.NewRat(10000, 1)).Num()
}

// rated is what Rate returns.
func rated(s string) (int, api.Errno) {
	if !percentage.MatchString(s) {
		return 0, api.ErrSyntax
	}
	ppm := exactPpm(s)
	if ppm.Cmp(big.NewInt(1000000)) > 0 {
		return 0, api.ErrArg
	}
	return int(ppm.Int64()), api.OK
}

// valued is the kind of a text that begins with a digit, or its error.
func valued(s string) (int, api.Errno) {
	if decimal.MatchString(s) {
		n, _ := new(big.Int).SetString(s, 10)
		if n.BitLen() > 63 {
			return 0, api.ErrOverflow
		}
		return api.TkNum, api.OK
	}
	switch _, problem := rated(s); problem {
	case api.OK:
		return api.TkRate, api.OK
	case api.ErrArg:
		return 0, api.ErrOverflow
	}
	return 0, api.ErrSyntax
}

// begun returns the text and the kind of the token with which s begins, or its error.
func begun(s string) (string, int, api.Errno) {
	if text := named.FindString(s); text != "" {
		switch {
		case slices.Contains(words, text):
			return text, api.TkWord, api.OK
		case len(text) > 16:
			return "", 0, api.ErrName
		}
		return text, api.TkName, api.OK
	}
	if text := counted.FindString(s); text != "" {
		kind, problem := valued(text)
		return text, kind, problem
	}
	if text := marked.FindString(s); text != "" {
		return text, api.TkMark, api.OK
	}
	return "", 0, api.ErrSyntax
}

// tokenized is what Tokenize returns. Lines are counted in all of the text before a token.
func tokenized(s string) ([]api.Token, int, api.Errno) {
	if len(s) > 2048 {
		return nil, 0, api.ErrLimit
	}
	var l []api.Token
	for at := 0; at < len(s); {
		if gap := between.FindString(s[at:]); gap != "" {
			at += len(gap)
			continue
		}
		line := 1 + strings.Count(s[:at], "\n")
		text, kind, problem := begun(s[at:])
		if problem != api.OK {
			return nil, line, problem
		}
		l = append(l, api.Token{Kind: kind, Line: line, Text: text})
		at += len(text)
	}
	return l, 0, api.OK
}

// joined is what Join returns for tokens with lines that are not far apart.
func joined(l []api.Token) (string, api.Errno) {
	s, line := "", 1
	for i, t := range l {
		found, _, _ := tokenized(t.Text)
		if len(found) != 1 || found[0] != (api.Token{Kind: t.Kind, Line: 1, Text: t.Text}) || t.Line < line {
			return "", api.ErrArg
		}
		switch {
		case t.Line > line:
			s += strings.Repeat("\n", t.Line-line)
		case i > 0:
			s += " "
		}
		s, line = s+t.Text, t.Line
	}
	if len(s) > 2048 {
		return "", api.ErrLimit
	}
	return s, api.OK
}

// checkTokenize compares Tokenize with the chapter.
func checkTokenize(t *testing.T, s string) {
	t.Helper()
	want, place, expected := tokenized(s)
	l, line, problem := token.Tokenize(s)
	if !slices.Equal(l, want) || line != place || problem != expected {
		t.Errorf("Tokenize(%.60q) of %d bytes is %v, %d, %d; want %v, %d, %d", s, len(s), l, line, problem, want, place, expected)
	}
}

// checkJoin compares Join with the chapter.
func checkJoin(t *testing.T, l []api.Token) {
	t.Helper()
	want, expected := joined(l)
	if s, problem := token.Join(l); s != want || problem != expected {
		t.Errorf("Join(%v) of %d tokens is %.60q, %d; want %.60q, %d", l, len(l), s, problem, want, expected)
	}
}

// checkRate compares Rate with the chapter.
func checkRate(t *testing.T, s string) {
	t.Helper()
	want, expected := rated(s)
	if ppm, problem := token.Rate(s); ppm != want || problem != expected {
		t.Errorf("Rate(%.60q) of %d bytes is %d, %d; want %d, %d", s, len(s), ppm, problem, want, expected)
	}
}

// refused requires an error in a line for a text, and no tokens.
func refused(t *testing.T, s string, line int, want api.Errno) {
	t.Helper()
	if l, place, problem := token.Tokenize(s); len(l) != 0 || place != line || problem != want {
		t.Errorf("Tokenize(%.60q) of %d bytes is %.100v, %d, %d; want %d, %d", s, len(s), l, place, problem, line, want)
	}
}

// found requires tokens for a text.
func found(t *testing.T, s string, want ...api.Token) {
	t.Helper()
	if l, line, problem := token.Tokenize(s); !slices.Equal(l, want) || line != 0 || problem != api.OK {
		t.Errorf("Tokenize(%.60q) of %d bytes is %v, %d, %d; want %v", s, len(s), l, line, problem, want)
	}
}

// of returns a token.
func of(kind, line int, text string) api.Token { return api.Token{Kind: kind, Line: line, Text: text} }

// samples are tokens of all kinds, in line 1.
func samples() []api.Token {
	var l []api.Token
	for _, text := range words {
		l = append(l, of(api.TkWord, 1, text))
	}
	for _, text := range marks {
		l = append(l, of(api.TkMark, 1, text))
	}
	for _, text := range []string{"a", "z", "x1", "a_", "a__9", "balance", "lowest", "volume", "amount", "count", "age", "day", "orx", "i", "iff", "half", "act36", "act3650", "abcdefghijklmnop", "z_0123456789_aaz"} {
		l = append(l, of(api.TkName, 1, text))
	}
	for _, text := range []string{"0", "1", "9", "10", "360", "2000", "1000000000000", "999999999999999999", "9223372036854775806", "9223372036854775807"} {
		l = append(l, of(api.TkNum, 1, text))
	}
	for _, text := range []string{"0%", "1%", "9%", "10%", "99%", "100%", "0.1%", "0.01%", "0.001%", "0.0001%", "0.1001%", "1.5%", "99.9999%", "12.34%", "50.505%"} {
		l = append(l, of(api.TkRate, 1, text))
	}
	return l
}

// texts returns all texts of at most a number of the bytes.
func texts(bytes string, most int) []string {
	l, last := []string{""}, []string{""}
	for range most {
		var longer []string
		for _, s := range last {
			for at := range len(bytes) {
				longer = append(longer, s+bytes[at:at+1])
			}
		}
		l, last = append(l, longer...), longer
	}
	return l
}

// written returns a text of a number of pieces, picked at random.
func written(random *rand.Rand, pieces []string, count int) string {
	var b strings.Builder
	for range count {
		b.WriteString(pieces[random.IntN(len(pieces))])
	}
	return b.String()
}

// gaps are texts that separate tokens, without comments that go on behind them.
var gaps = []string{" ", "\t", "\n", "  ", " \t \n", "\n\n", "# one\n", " #\n", "#\n\n#\n", "#}{=\"!\xff\x00é\n", "\t# 1.50% # = \r\n ", "\n\n\n\n"}
