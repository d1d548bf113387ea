package token_test

import (
	"math"
	"math/rand/v2"
	"slices"
	"strings"
	"testing"

	"corebank/api"
	"corebank/token"
)

// noText requires an error for tokens, and no text.
func noText(t *testing.T, want api.Errno, l ...api.Token) {
	t.Helper()
	if s, problem := token.Join(l); s != "" || problem != want {
		t.Errorf("Join(%v) of %d tokens is %.60q, %d; want %d", l, len(l), s, problem, want)
	}
}

// P9.3
func TestJoin(t *testing.T) {
	for _, c := range []struct {
		want string
		l    []api.Token
	}{
		{"", nil}, {"", []api.Token{}}, {"a", []api.Token{of(api.TkName, 1, "a")}}, {"\na", []api.Token{of(api.TkName, 2, "a")}}, {"\n\n\n\nif", []api.Token{of(api.TkWord, 5, "if")}},
		{"a b", []api.Token{of(api.TkName, 1, "a"), of(api.TkName, 1, "b")}}, {"a\nb", []api.Token{of(api.TkName, 1, "a"), of(api.TkName, 2, "b")}}, {"a\n\n\nb", []api.Token{of(api.TkName, 1, "a"), of(api.TkName, 4, "b")}},
		{"\n\na b\nc", []api.Token{of(api.TkName, 3, "a"), of(api.TkName, 3, "b"), of(api.TkName, 4, "c")}}, {"( a + 1 ) * 1.5% <= $ 0", []api.Token{of(4, 1, "("), of(1, 1, "a"), of(4, 1, "+"), of(2, 1, "1"), of(4, 1, ")"), of(4, 1, "*"), of(3, 1, "1.5%"), of(4, 1, "<="), of(4, 1, "$"), of(2, 1, "0")}},
		{"< <= ==\n!= <", []api.Token{of(4, 1, "<"), of(4, 1, "<="), of(4, 1, "=="), of(4, 2, "!="), of(4, 2, "<")}}, {"abcdefghijklmnop 9223372036854775807 100% 0%", []api.Token{of(1, 1, "abcdefghijklmnop"), of(2, 1, "9223372036854775807"), of(3, 1, "100%"), of(3, 1, "0%")}},
		{"fee x1\n<= 12 1.5%", []api.Token{of(5, 1, "fee"), of(1, 1, "x1"), of(4, 2, "<="), of(2, 2, "12"), of(3, 2, "1.5%")}},
	} {
		before := slices.Clone(c.l)
		if s, problem := token.Join(c.l); s != c.want || problem != api.OK {
			t.Errorf("Join(%v) is %q, %d; want %q", c.l, s, problem, c.want)
		}
		if !slices.Equal(c.l, before) {
			t.Errorf("Join changed %v to %v", before, c.l)
		}
		checkJoin(t, c.l)
	}
}

// P9.3: each kind with each text.
func TestJoinKinds(t *testing.T) {
	for _, sample := range samples() {
		for _, kind := range []int{math.MinInt, -1, 0, 1, 2, 3, 4, 5, 6, 1<<32 + sample.Kind, math.MaxInt} {
			l := []api.Token{of(kind, 1, sample.Text)}
			if kind == sample.Kind {
				if s, problem := token.Join(l); s != sample.Text || problem != api.OK {
					t.Errorf("Join(%v) is %q, %d", l, s, problem)
				}
				continue
			}
			noText(t, api.ErrArg, l...)
			noText(t, api.ErrArg, of(api.TkName, 1, "a"), l[0])
			noText(t, api.ErrArg, l[0], of(api.TkName, 1, "a"))
		}
	}
}

// noTokens are texts that are no tokens, or more than one.
var noTokens = []string{
	"", " ", "\n", "#", "# a", "a b", "a+", "a ", " a", "a\n", "\na", "\ta", "a#", "a# b", "#\na", "a#\n", "1 2", "1+2", "1 ", " 1", "1#", "1.5% ", " 1.5%", "1.5%#", "<= ", " <=", "<=#", "< =", "<<", "<==", "===", "!==", "==!=", "()", "$0", "-1", "-1.5%", "if then", "if ", "if#", "if\n",
	"=", "!", ">", "_", "_a", "A", "aB", "IF", "If", "é", "\xff", "a\xff", "\x00", "a\x00", "\r", "01", "00", "1a", "1.5", "1.", "1.50%", "1.%", "01%", "0.0%", "0.00001%", "100.0001%", "101%", "9223372036854775808", "abcdefghijklmnopq", strings.Repeat("a", 2048), strings.Repeat("a", 2049), strings.Repeat(" ", 3000), "a" + strings.Repeat(" ", 2047), "a" + strings.Repeat(" ", 2048), strings.Repeat("a ", 1<<20),
}

// P9.3: texts that are not one token.
func TestJoinTexts(t *testing.T) {
	for _, text := range noTokens {
		for kind := range 7 {
			noText(t, api.ErrArg, of(kind, 1, text))
			noText(t, api.ErrArg, of(kind, 1, text), of(api.TkName, 1, "a"))
			noText(t, api.ErrArg, of(api.TkName, 1, "a"), of(api.TkNum, 1, "1"), of(kind, 2, text))
		}
	}
	for b := range 256 {
		for kind := 1; kind <= 5; kind++ {
			c := string([]byte{byte(b)})
			checkJoin(t, []api.Token{of(kind, 1, c)})
			checkJoin(t, []api.Token{of(kind, 1, "a"+c)})
			checkJoin(t, []api.Token{of(kind, 1, c+"=")})
		}
	}
}

// P9.3: lines.
func TestJoinLines(t *testing.T) {
	a, one := of(api.TkName, 1, "a"), of(api.TkNum, 1, "1")
	for _, line := range []int{0, -1, -2, -2048, -1 << 32, -1<<32 + 1, math.MinInt, math.MinInt + 1} {
		noText(t, api.ErrArg, of(api.TkName, line, "a"))
		noText(t, api.ErrArg, of(api.TkName, line, "a"), one)
		noText(t, api.ErrArg, of(api.TkName, line, "a"), of(api.TkNum, line, "1"))
		noText(t, api.ErrArg, a, of(api.TkNum, line, "1"))
	}
	for _, lines := range [][]int{{2, 1}, {3, 3, 2}, {1, 2, 1}, {1, 3, 2}, {5, 4, 6}, {100, 1}, {2000, 1999}, {math.MaxInt, math.MaxInt - 1}, {math.MaxInt, 1}, {1, math.MaxInt, math.MinInt}, {0, 1, 2}, {-1, 1}} {
		var l []api.Token
		for _, line := range lines {
			l = append(l, of(api.TkName, line, "a"))
		}
		noText(t, api.ErrArg, l...)
	}
	// As far apart as a text can be long, and farther.
	for _, line := range []int{2047, 2048} {
		if s, problem := token.Join([]api.Token{of(api.TkName, line, "a")}); s != strings.Repeat("\n", line-1)+"a" || problem != api.OK {
			t.Errorf("Join with line %d is %d bytes, %d", line, len(s), problem)
		}
		if s, problem := token.Join([]api.Token{a, of(api.TkName, line-1, "b")}); s != "a"+strings.Repeat("\n", line-2)+"b" || problem != api.OK {
			t.Errorf("Join with line %d is %d bytes, %d", line-1, len(s), problem)
		}
	}
	for _, line := range []int{2049, 2050, 2051, 10000, 1 << 31, 1 << 32, 1<<32 + 1, 1<<32 + 2, 1 << 62, math.MaxInt - 1, math.MaxInt} {
		noText(t, api.ErrLimit, of(api.TkName, line, "a"))
		noText(t, api.ErrLimit, a, of(api.TkName, line, "a"), of(api.TkName, line, "a"))
		noText(t, api.ErrLimit, a, of(api.TkName, 7, "a"), of(api.TkName, line, "a"))
	}
	noText(t, api.ErrLimit, a, of(api.TkName, 2048, "a"))
	noText(t, api.ErrLimit, of(api.TkName, 1<<62, "a"), of(api.TkName, math.MaxInt, "a"))
}

// ends returns a text of tokens in line 1 with a number of bytes, the last one or two of which are in a token, too.
func ends(size int) []api.Token {
	l := slices.Repeat([]api.Token{of(api.TkName, 1, "a")}, (size-1)/2)
	if size%2 == 0 {
		return append(l, of(api.TkMark, 1, "<="))
	}
	return append(l, of(api.TkMark, 1, "<"))
}

// P9.3: MaxSource bytes, and more.
func TestJoinSizes(t *testing.T) {
	for size := 2040; size <= 2048; size++ {
		l := ends(size)
		if s, problem := token.Join(l); len(s) != size || problem != api.OK {
			t.Errorf("Join of %d bytes is %d bytes, %d", size, len(s), problem)
		}
		checkJoin(t, l)
	}
	for _, size := range []int{2049, 2050, 2051, 2100, 4096, 100000} {
		noText(t, api.ErrLimit, ends(size)...)
	}
	for _, size := range []int{1, 2, 1000, 2047, 2048, 2049} {
		l := []api.Token{of(api.TkWord, 1, "if")}
		for line := 2; len(l) < size/2; line++ {
			l = append(l, of(api.TkMark, line, "+"))
		}
		checkJoin(t, l)
		checkJoin(t, append(l, of(api.TkMark, 1024, "-")))
	}
}

// P9.3: a token that is wrong counts before a text that is too long, wherever it is.
func TestJoinFirstError(t *testing.T) {
	long := ends(3000)
	for _, at := range []int{0, 1, 2, 1000, 1023, 1024, 1025, len(long) - 1, len(long)} {
		for _, wrong := range []api.Token{of(api.TkName, 1, "if"), of(api.TkWord, 1, "a"), of(api.TkName, 0, "a"), of(0, 1, "a"), of(api.TkName, 1, "a b"), of(api.TkName, 1, ""), of(api.TkNum, 1, "01")} {
			noText(t, api.ErrArg, slices.Insert(slices.Clone(long), at, wrong)...)
		}
	}
	noText(t, api.ErrArg, append(slices.Clone(long), of(api.TkName, 1, "if"))...)
	noText(t, api.ErrArg, append(slices.Clone(long), of(api.TkName, 0, "a"))...)
	noText(t, api.ErrArg, of(api.TkName, math.MaxInt, "a"), of(api.TkName, math.MaxInt, "if"))
	noText(t, api.ErrArg, of(api.TkName, math.MaxInt, "a"), of(api.TkName, 1, "a"))
	noText(t, api.ErrArg, of(api.TkName, math.MaxInt, "if"))
	noText(t, api.ErrLimit, long...)
}

// listed returns tokens of all kinds in lines that do not descend.
func listed(random *rand.Rand, count int) []api.Token {
	all := samples()
	line := 1
	var l []api.Token
	for range count {
		if random.IntN(4) == 0 {
			line += random.IntN(12)
		}
		sample := all[random.IntN(len(all))]
		l = append(l, of(sample.Kind, line, sample.Text))
	}
	return l
}

// P9.3, P9.5: each pair of tokens is restored, in one line and in two.
func TestRestoredPairs(t *testing.T) {
	for _, a := range samples() {
		for _, b := range samples() {
			for line := 1; line <= 2; line++ {
				l := []api.Token{a, of(b.Kind, line, b.Text)}
				s, problem := token.Join(l)
				if want := a.Text + [3]string{1: " ", 2: "\n"}[line] + b.Text; s != want || problem != api.OK {
					t.Errorf("Join(%v) is %q, %d; want %q", l, s, problem, want)
				}
				found(t, s, l...)
			}
		}
	}
}

// P9.5
func TestRestored(t *testing.T) {
	random := seeded()
	short := 0
	for range 3000 {
		l := listed(random, random.IntN(500))
		checkJoin(t, l)
		s, problem := token.Join(l)
		if problem != api.OK {
			continue
		}
		short++
		found(t, s, l...)
	}
	if short < 500 {
		t.Errorf("only %d lists are short enough", short)
	}
	for _, line := range []int{1, 2, 1000, 2048} {
		l := []api.Token{of(api.TkName, line, "a")}
		s, _ := token.Join(l)
		found(t, s, l...)
	}
	// What is joined from the tokens of a text has the same tokens as the text.
	for range 5000 {
		s := written(random, pieces(), random.IntN(12))
		l, _, problem := token.Tokenize(s)
		if problem != api.OK {
			continue
		}
		again, problem := token.Join(l)
		if problem != api.OK {
			t.Fatalf("Join(%v) is %q, %d", l, again, problem)
		}
		found(t, again, l...)
	}
}

// spaced returns a text of tokens with blanks and comments around each of them.
func spaced(random *rand.Rand, l []api.Token) string {
	s := written(random, gaps, random.IntN(3))
	for _, one := range l {
		s += one.Text + written(random, gaps, 1+random.IntN(3))
	}
	return s
}

// P9.6: between the same tokens, blanks and comments change lines alone.
func TestBlanksAndComments(t *testing.T) {
	random := seeded()
	plain := func(l []api.Token) []api.Token {
		l = slices.Clone(l)
		for i := range l {
			l[i].Line = 0
		}
		return l
	}
	for range 3000 {
		l := listed(random, random.IntN(60))
		s := spaced(random, l)
		if len(s) > api.MaxSource {
			continue
		}
		checkTokenize(t, s)
		if other, line, problem := token.Tokenize(s); !slices.Equal(plain(other), plain(l)) || line != 0 || problem != api.OK {
			t.Fatalf("Tokenize(%q) is %v, %d, %d; want the tokens %v", s, other, line, problem, l)
		}
	}
	// Tokens that need no blanks between them are the same with them.
	for _, gap := range append(gaps, "") {
		s := strings.ReplaceAll("(|a|+|1|)|*|-|1.5%|<=|$|0|;|{|if|}|<|b|!=|c|,|d", "|", gap)
		l, _, problem := token.Tokenize(s)
		want, _, _ := token.Tokenize("( a + 1 ) * - 1.5% <= $ 0 ; { if } < b != c , d")
		if !slices.Equal(plain(l), plain(want)) || problem != api.OK {
			t.Errorf("Tokenize(%q) is %v, %d", s, l, problem)
		}
	}
}

// P9.6: an error remains the same one, too.
func TestBlanksBeforeErrors(t *testing.T) {
	for _, wrong := range []string{"=", "1a", "100.1%", "abcdefghijklmnopq", "\xff"} {
		_, _, want := token.Tokenize("a +" + wrong)
		for _, gap := range gaps {
			refused(t, "a"+gap+"+"+gap+wrong+gap+"b", 1+2*strings.Count(gap, "\n"), want)
		}
	}
}
