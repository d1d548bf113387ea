package token_test

import (
	"slices"
	"strings"
	"testing"

	"corebank/api"
	"corebank/token"
)

// The chapter's examples 1 and 2.
func TestExamples(t *testing.T) {
	found(t, "fee  x1 # one\n<= 12 1.5%", of(api.TkWord, 1, "fee"), of(api.TkName, 1, "x1"), of(api.TkMark, 2, "<="), of(api.TkNum, 2, "12"), of(api.TkRate, 2, "1.5%"))
	for _, s := range []string{"1a", "01", "1.50%", "="} {
		refused(t, s, 1, api.ErrSyntax)
	}
	refused(t, "100.1%", 1, api.ErrOverflow)
}

// P9.2: a definition of chapter 16, in one line and in several.
func TestDefinition(t *testing.T) {
	s := "product basic { currency eur; calendar week; from 2000 / 1 / 1; every 3; overdraft $ 0; tax 0%; credit whole act365 half_even drop { } debit whole act365 half_even drop { } }"
	checkTokenize(t, s)
	checkTokenize(t, strings.ReplaceAll(s, ";", ";\n"))
	checkTokenize(t, strings.ReplaceAll(s, " ", "\t# x\n\n"))
	if l, line, problem := token.Tokenize(s); len(l) != 41 || line != 0 || problem != api.OK {
		t.Errorf("there are %d tokens, %d, %d", len(l), line, problem)
	}
	found(t, "limit l1 daily if count<=3 then$500 else-balance*2;", of(api.TkWord, 1, "limit"), of(api.TkName, 1, "l1"), of(api.TkWord, 1, "daily"), of(api.TkWord, 1, "if"), of(api.TkName, 1, "count"), of(api.TkMark, 1, "<="), of(api.TkNum, 1, "3"),
		of(api.TkWord, 1, "then"), of(api.TkMark, 1, "$"), of(api.TkNum, 1, "500"), of(api.TkWord, 1, "else"), of(api.TkMark, 1, "-"), of(api.TkName, 1, "balance"), of(api.TkMark, 1, "*"), of(api.TkNum, 1, "2"), of(api.TkMark, 1, ";"))
}

// P9.2: no tokens at all.
func TestNoTokens(t *testing.T) {
	for _, s := range []string{"", " ", "\t", "\n", " \t\n\t ", "\n\n\n", "#", "##", "# one", "# one\n", "# one\n# two", "#\n#\n#", " # = ! A \xff\x00\r\n\t#", "#" + strings.Repeat("A", 2047), strings.Repeat(" ", 2048), strings.Repeat("\n", 2048), strings.Repeat("#\n", 1024)} {
		found(t, s)
	}
}

// P9.2: comments end with the line, or with the text.
func TestComments(t *testing.T) {
	found(t, "a# b", of(api.TkName, 1, "a"))
	found(t, "a#b\nc", of(api.TkName, 1, "a"), of(api.TkName, 2, "c"))
	found(t, "#a\n#b\n\nc#d", of(api.TkName, 4, "c"))
	found(t, "a # b # c\n # d\r e\nf#", of(api.TkName, 1, "a"), of(api.TkName, 3, "f"))
	found(t, "1#2%\n3%#\n", of(api.TkNum, 1, "1"), of(api.TkRate, 2, "3%"))
	found(t, "<#\n==", of(api.TkMark, 1, "<"), of(api.TkMark, 2, "=="))
	refused(t, "=#\n=", 1, api.ErrSyntax)
	refused(t, "#\n!#\n=", 2, api.ErrSyntax)
	// Every byte but a line feed is skipped in a comment.
	for b := range 256 {
		if b != '\n' {
			found(t, "a#"+string([]byte{byte(b)})+"b\nc", of(api.TkName, 1, "a"), of(api.TkName, 2, "c"))
		}
	}
}

// P9.2
func TestNames(t *testing.T) {
	for _, s := range []string{"a", "z", "x1", "a_", "a__", "a0", "z9", "a_1_b", "productx", "product_", "product1", "abcdefghijklmnop", "z_______________", "a000000000000000", "a_00000000000009", "half_up_and_down", "or_", "o", "r", "balance"} {
		found(t, s, of(api.TkName, 1, s))
		found(t, s+";"+s+"\n"+s, of(api.TkName, 1, s), of(api.TkMark, 1, ";"), of(api.TkName, 1, s), of(api.TkName, 2, s))
	}
	for _, s := range []string{"abcdefghijklmnopq", "a0000000000000000", "a________________", "productproductproduct", "half_even_half_up", "calendar_currency_", strings.Repeat("z", 2048), strings.Repeat("min", 600)} {
		refused(t, s, 1, api.ErrName)
		refused(t, "a\n\n+"+s[:17]+" b", 3, api.ErrName)
	}
	for size := 1; size <= 40; size++ {
		for _, c := range "az" {
			checkTokenize(t, strings.Repeat(string(c), size))
			checkTokenize(t, string(c)+strings.Repeat("0", size-1)+" "+string(c)+strings.Repeat("_", size-1))
		}
	}
	// No name begins like this.
	for _, s := range []string{"_", "_a", "__", "A", "Aa", "Z9", "PRODUCT", "É", "é", "\xe9", ".a", "%a", "'a'", "\"a\""} {
		refused(t, s, 1, api.ErrSyntax)
	}
	// What is no letter, digit or _ ends a name.
	found(t, "ab+c-d", of(api.TkName, 1, "ab"), of(api.TkMark, 1, "+"), of(api.TkName, 1, "c"), of(api.TkMark, 1, "-"), of(api.TkName, 1, "d"))
	for _, s := range []string{"aB", "a.b", "a%", "a é", "a\xff", "a=b", "aé", "a\r\n", "fee.1", "if!"} {
		refused(t, s, 1, api.ErrSyntax)
	}
}

// P9.2
func TestNumbers(t *testing.T) {
	for _, s := range []string{"0", "1", "9", "10", "12", "100", "2147483648", "4294967296", "1000000000000", "9223372036854775806", "9223372036854775807"} {
		found(t, s, of(api.TkNum, 1, s))
		found(t, "-"+s+"*"+s, of(api.TkMark, 1, "-"), of(api.TkNum, 1, s), of(api.TkMark, 1, "*"), of(api.TkNum, 1, s))
	}
	for _, s := range []string{"9223372036854775808", "9223372036854775809", "9999999999999999999", "10000000000000000000", "18446744073709551615", "18446744073709551616", "18446744073709551617", "340282366920938463463374607431768211456", "1" + strings.Repeat("0", 2047), strings.Repeat("9", 2048)} {
		refused(t, s, 1, api.ErrOverflow)
		// The form counts before the size.
		if len(s) < 2048 {
			refused(t, "0"+s, 1, api.ErrSyntax)
			refused(t, s+"_", 1, api.ErrSyntax)
			refused(t, s+".", 1, api.ErrSyntax)
		}
	}
	for _, s := range []string{"00", "01", "007", "00000000000000000000", "0123", "1a", "1_", "1_000", "0x1", "0b1", "0o7", "1e3", "12ab", "0a", "0_", "9z", "1.", "1.5", "0.0", "1..5", "1.2.3", "1.a", "360days", "3and", "0or1", "1%2", "1%a", "1%_", "1%%", "1%.", "5.%5"} {
		refused(t, s, 1, api.ErrSyntax)
		refused(t, "a\n\n\n"+s+"+", 4, api.ErrSyntax)
	}
	// What is in no number ends it.
	found(t, "1 2,3\t4\n5#6", of(api.TkNum, 1, "1"), of(api.TkNum, 1, "2"), of(api.TkMark, 1, ","), of(api.TkNum, 1, "3"), of(api.TkNum, 1, "4"), of(api.TkNum, 2, "5"))
	for _, s := range []string{"1A", "1=", "1\xff", "1é", "1'", "0%A", "1\r"} {
		refused(t, s, 1, api.ErrSyntax)
	}
}

// P9.2
func TestPercentages(t *testing.T) {
	for _, s := range []string{"0%", "1%", "10%", "99%", "100%", "0.1%", "0.01%", "0.001%", "0.0001%", "0.9999%", "1.5%", "1.05%", "1.0005%", "12.34%", "99.9999%"} {
		found(t, s, of(api.TkRate, 1, s))
		found(t, "-"+s+"<="+s, of(api.TkMark, 1, "-"), of(api.TkRate, 1, s), of(api.TkMark, 1, "<="), of(api.TkRate, 1, s))
	}
	for _, s := range []string{"100.0001%", "100.1%", "101%", "110%", "1000%", "999.9999%", "9223372036854775807%", "9223372036854775808%", "18446744073709551616%", "18446744073709551716%", "1844674407370955.1616%", "922337203685477.5808%", "1844674407370955.2616%", "1" + strings.Repeat("0", 2046) + "%"} {
		refused(t, s, 1, api.ErrOverflow)
	}
	for _, s := range []string{"00%", "01%", "00.5%", "01.5%", "000%", "1.%", "0.%", "1.0%", "0.0%", "1.50%", "0.0000%", "1.5000%", "0.00001%", "1.23456%", "0.12345%", "100.00001%", "100.0%", "101.0%", "1.5", "0.1", "1a%", "1.5a%", "1.a%", "1_%", "1.5%a", "1.5%%", "1.5%1", "1.5.5%", "1..5%", "1%.5", "0x1%", "1e1%", "0100%", "0" + strings.Repeat("1", 40) + "%", strings.Repeat("9", 30) + ".0%"} {
		refused(t, s, 1, api.ErrSyntax)
		refused(t, "\n$"+s, 2, api.ErrSyntax)
	}
	for _, s := range []string{"%", "1. 5%", "1 .5%", "% 1", ".", "+.5%", "5,5%", "1,%"} {
		checkTokenize(t, s)
	}
	refused(t, "1 %", 1, api.ErrSyntax)
	refused(t, ".5%", 1, api.ErrSyntax)
	refused(t, "1\n%", 2, api.ErrSyntax)
}

// P9.2
func TestMarks(t *testing.T) {
	for _, s := range marks {
		found(t, s, of(api.TkMark, 1, s))
		found(t, "a"+s+"1", of(api.TkName, 1, "a"), of(api.TkMark, 1, s), of(api.TkNum, 1, "1"))
		for _, other := range append(marks, "=", "!", "#", ">", "&", "|", ".", "%") {
			checkTokenize(t, s+other)
			checkTokenize(t, other+s)
			checkTokenize(t, s+" "+other+s)
			checkTokenize(t, s+other+"="+s)
		}
	}
	for s, want := range map[string][]string{
		"<<": {"<", "<"}, "<<=": {"<", "<="}, "<=<": {"<=", "<"}, "<=<=": {"<=", "<="}, "====": {"==", "=="}, "<===": {"<=", "=="}, "!===": {"!=", "=="}, "==!=": {"==", "!="}, "< ==": {"<", "=="}, "--": {"-", "-"}, "$$": {"$", "$"}, "//": {"/", "/"}, "{{}}": {"{", "{", "}", "}"},
		"{}(),;:$+-*/==!=<=<": {"{", "}", "(", ")", ",", ";", ":", "$", "+", "-", "*", "/", "==", "!=", "<=", "<"},
	} {
		l, _, problem := token.Tokenize(s)
		var texts []string
		for _, found := range l {
			texts = append(texts, found.Text)
		}
		if !slices.Equal(texts, want) || problem != api.OK {
			t.Errorf("Tokenize(%q) is %v, %d", s, l, problem)
		}
	}
	for _, s := range []string{"=", "!", "<==", "===", "=====", "!==", "!!=", "=!=", "==!", "<!", "=<", "=>", "= =", "! =", "< = =", "=\n=", ">", ">=", "<>", "&&", "||", "&", "|", "^", "~", "[", "]", "'", "\"", "\\", "`", "@", "?", "!a", ":=", "a=b", "+=", "%", ".", "..", "_", "\r", "\v", "\f", "\x00", "\x7f"} {
		refused(t, s, 1, api.ErrSyntax)
	}
}

// P9.2: every byte, alone, beside tokens and within them.
func TestEachByte(t *testing.T) {
	for b := range 256 {
		c := string([]byte{byte(b)})
		checkTokenize(t, c)
		checkTokenize(t, c+c)
		checkTokenize(t, "x\n"+c)
		if l, _, problem := token.Tokenize(c); (problem == api.OK) != strings.ContainsAny(c, " \t\n#abcdefghijklmnopqrstuvwxyz0123456789{}(),;:$+-*/<") {
			t.Errorf("Tokenize(%q) is %v, %d", c, l, problem)
		}
		for _, s := range []string{"if x1 <= 12", "1.5% + 0", "month_ly!=2", "a#b\nc==d", "9223372036854775807", "abcdefghijklmnop", "99.9999%"} {
			for at := range len(s) + 1 {
				checkTokenize(t, s[:at]+c+s[at:])
				if at < len(s) {
					checkTokenize(t, s[:at]+c+s[at+1:])
				}
			}
		}
	}
}

// P9.2: letters that take several bytes, blanks that are none, and what is no UTF-8.
func TestOtherText(t *testing.T) {
	for _, s := range []string{"é", "日本", "ä", "a\u0301", "\u00a0", "\u2028", "\u3000", "\ufeff", "\ufeffa", "１", "٣", "−", "≤", "€", "ａ", "\xff", "\xc3", "\x80", "\xc3\x28", "\xed\xa0\x80", "\xf4\x90\x80\x80", "\xc0\xa0", "1\u00a0", "½", "５%", "1％"} {
		refused(t, s, 1, api.ErrSyntax)
		refused(t, "x # "+s+"\n"+s, 2, api.ErrSyntax)
		found(t, "x # "+s+"\ny", of(api.TkName, 1, "x"), of(api.TkName, 2, "y"))
	}
}

// P9.2: lines are counted by line feeds alone, also in comments.
func TestLines(t *testing.T) {
	found(t, "a\nb\n\nc", of(api.TkName, 1, "a"), of(api.TkName, 2, "b"), of(api.TkName, 4, "c"))
	found(t, "\n\n\na", of(api.TkName, 4, "a"))
	found(t, "a \n b \t\n\t c \n", of(api.TkName, 1, "a"), of(api.TkName, 2, "b"), of(api.TkName, 3, "c"))
	found(t, "a # x\nb # y # z\n# u\nc", of(api.TkName, 1, "a"), of(api.TkName, 2, "b"), of(api.TkName, 4, "c"))
	found(t, strings.Repeat("\n", 2047)+"a", of(api.TkName, 2048, "a"))
	found(t, "a"+strings.Repeat("\n", 2046)+"1", of(api.TkName, 1, "a"), of(api.TkNum, 2047, "1"))
	found(t, strings.Repeat("#\n", 1023)+"a", of(api.TkName, 1024, "a"))
	refused(t, strings.Repeat("\n", 2047)+"=", 2048, api.ErrSyntax)
	refused(t, "a\r\nb", 1, api.ErrSyntax)
}

// P9.2: MaxSource bytes, and one more.
func TestSizes(t *testing.T) {
	for _, piece := range []string{"a", "1", " ", "\n", "#", "+", "a ", "a\n", "0 ", "==", "<", "0%,", "=", "A", "\xff", "é", "min ", "if\n"} {
		for _, size := range []int{2046, 2047, 2048} {
			checkTokenize(t, strings.Repeat(piece, 2048)[:size])
		}
		for _, size := range []int{2049, 2050, 4096} {
			refused(t, strings.Repeat(piece, 4096)[:size], 0, api.ErrLimit)
		}
		refused(t, strings.Repeat(piece, 1<<20), 0, api.ErrLimit)
	}
	many := strings.Repeat("a ", 1024)
	if l, line, problem := token.Tokenize(many); len(l) != 1024 || line != 0 || problem != api.OK {
		t.Errorf("there are %d tokens, %d, %d", len(l), line, problem)
	}
	refused(t, many+"b", 0, api.ErrLimit)
	refused(t, many+" ", 0, api.ErrLimit)
	refused(t, "=\n"+many, 0, api.ErrLimit)
}

// P9.2: the first token that has an error counts, with its line.
func TestFirstError(t *testing.T) {
	const long = "abcdefghijklmnopq"
	for _, c := range []struct {
		s       string
		line    int
		problem api.Errno
	}{
		{"=\n" + long, 1, api.ErrSyntax}, {long + "\n=", 1, api.ErrName}, {"a\n" + long + " =", 2, api.ErrName}, {"a\n= " + long, 2, api.ErrSyntax}, {"101%\n01", 1, api.ErrOverflow}, {"01\n101%", 1, api.ErrSyntax},
		{"1 2\n\n9223372036854775808 " + long, 3, api.ErrOverflow}, {long + " 9223372036854775808", 1, api.ErrName}, {"# =\n=", 2, api.ErrSyntax}, {"# =\n# " + long + "\n" + long, 3, api.ErrName}, {"a +\n\tb *\n c ! d\n= e", 3, api.ErrSyntax},
		{long + "=", 1, api.ErrName}, {"=" + long, 1, api.ErrSyntax}, {"1" + long, 1, api.ErrSyntax}, {"1+" + long, 1, api.ErrName}, {"\n\nA\n" + long, 3, api.ErrSyntax}, {long + "\xff", 1, api.ErrName}, {"\xff" + long, 1, api.ErrSyntax},
	} {
		refused(t, c.s, c.line, c.problem)
	}
}

// P9.2: every short text of bytes that matter.
func TestShortTexts(t *testing.T) {
	for _, bytes := range []string{"a_1 #\n", "01.5%a", "=!<$ \n", "or1%.#"} {
		for _, s := range texts(bytes, 6) {
			checkTokenize(t, s)
		}
	}
}

// pieces are texts of which definitions consist, and some that have no place in them.
func pieces() []string {
	l := append([]string{"=", "!", "A", "_", "01", "1.50%", "100.1%", "9223372036854775808", "abcdefghijklmnopq", "\xff", ".", "%", "é", "\r", "#", "# a"}, gaps...)
	for _, sample := range samples() {
		l = append(l, sample.Text)
	}
	for range 20 {
		l = append(l, gaps...)
	}
	return l
}

// P9.2: texts of many pieces.
func TestManyPieces(t *testing.T) {
	random, all := seeded(), pieces()
	right := 0
	for range 20000 {
		s := written(random, all, random.IntN(40))
		checkTokenize(t, s)
		if _, _, problem := token.Tokenize(s); problem == api.OK {
			right++
		}
	}
	if right < 1000 {
		t.Errorf("only %d texts are right", right)
	}
}

// P0.4: the results of two calls share nothing.
func TestNothingShared(t *testing.T) {
	const s = "fee x1\n<= 12 1.5%"
	want, _, _ := tokenized(s)
	first, _, _ := token.Tokenize(s)
	for i := range first {
		first[i] = of(0, 0, "")
	}
	_ = append(first[:1], of(0, 0, ""))
	found(t, s, want...)
}
