package token_test

import (
	"slices"
	"strings"
	"testing"

	"corebank/api"
	"corebank/token"
)

// near returns the texts that differ from s by one byte: without it, with another one, or with one more.
func near(s string) []string {
	const bytes = "abcdefghijklmnopqrstuvwxyz0123456789_"
	var l []string
	for at := range len(s) + 1 {
		for i := range len(bytes) {
			l = append(l, s[:at]+bytes[i:i+1]+s[at:])
			if at < len(s) {
				l = append(l, s[:at]+bytes[i:i+1]+s[at+1:])
			}
		}
		if at < len(s) {
			l = append(l, s[:at]+s[at+1:])
		}
	}
	return l
}

// P9.1
func TestWord(t *testing.T) {
	if len(words) != 42 {
		t.Fatalf("there are %d words", len(words))
	}
	for _, s := range words {
		if !token.Word(s) {
			t.Errorf("Word(%q) is false", s)
		}
		for _, other := range near(s) {
			if token.Word(other) != slices.Contains(words, other) {
				t.Errorf("Word(%q) is %t", other, !slices.Contains(words, other))
			}
		}
		for _, other := range []string{strings.ToUpper(s), strings.ToUpper(s[:1]) + s[1:], " " + s, s + " ", "\t" + s, s + "\n", s + "\x00", s + "#", s + ";", s + s, s + " " + s} {
			if token.Word(other) {
				t.Errorf("Word(%q) is true", other)
			}
		}
	}
}

// P9.1
func TestNoWord(t *testing.T) {
	for _, s := range []string{
		"", " ", "a", "of", "true", "false", "name", "rate", "num", "at", "half", "act", "360", "365", "act366", "30e360", "amount", "months", "year", "weekly", "yearly", "returns", "fees", "limits", "events", "xor", "elif",
		"balance", "lowest", "volume", "amount", "count", "age", "day", "\xff", "é", strings.Repeat("min", 100000), "product, currency", "{", "==",
	} {
		if token.Word(s) {
			t.Errorf("Word(%.60q) is true", s)
		}
	}
	for _, s := range marks {
		if token.Word(s) {
			t.Errorf("Word(%q) is true", s)
		}
	}
	for _, s := range texts("abcdefghijklmnopqrstuvwxyz", 3) {
		if token.Word(s) != slices.Contains(words, s) {
			t.Errorf("Word(%q) is %t", s, !slices.Contains(words, s))
		}
	}
}

// P9.1, P9.2: a token is a word exactly if Word reports it.
func TestWordsAsTokens(t *testing.T) {
	for _, s := range words {
		found(t, s, of(api.TkWord, 1, s))
		found(t, "\n"+s+"#"+s, of(api.TkWord, 2, s))
		found(t, s+" "+s+"\n"+s, of(api.TkWord, 1, s), of(api.TkWord, 1, s), of(api.TkWord, 2, s))
		found(t, "$"+s+"+", of(api.TkMark, 1, "$"), of(api.TkWord, 1, s), of(api.TkMark, 1, "+"))
		refused(t, strings.ToUpper(s), 1, api.ErrSyntax)
		for _, other := range near(s) {
			checkTokenize(t, other)
		}
	}
}
