package wire_test

import (
	"fmt"
	"math"
	"math/big"
	"math/rand/v2"
	"regexp"
	"slices"
	"strings"
	"testing"

	"corebank/api"
	"corebank/wire"
)

// seeded gives the same numbers in every run.
func seeded() *rand.Rand { return rand.New(rand.NewPCG(7, 7)) }

// The decimal form of an integer, and that of a number with a colon behind it at the beginning of a text.
var (
	form   = regexp.MustCompile(`^(0|-?[1-9][0-9]*)\z`)
	length = regexp.MustCompile(`^(0|[1-9][0-9]*):`)
)

// taken is what TakeInt returns, by the form of the text and the exact number.
func taken(s string) (int, api.Errno) {
	if !form.MatchString(s) {
		return 0, api.ErrSyntax
	}
	n, _ := new(big.Int).SetString(s, 10)
	if n.Cmp(big.NewInt(math.MaxInt)) > 0 || n.Cmp(big.NewInt(math.MinInt)) < 0 {
		return 0, api.ErrOverflow
	}
	return int(n.Int64()), api.OK
}

// packed is the encoding as the chapter defines it.
func packed(l []string) string {
	s := ""
	for _, text := range l {
		s += fmt.Sprintf("%d:", len(text)) + text
	}
	return s
}

// numerals are the decimal forms of numbers.
func numerals(l []int) []string {
	var texts []string
	for _, n := range l {
		texts = append(texts, fmt.Sprint(n))
	}
	return texts
}

// unpacked is what Unpack returns, text by text.
func unpacked(s string) ([]string, api.Errno) {
	if s == "" {
		return nil, api.OK
	}
	found := length.FindStringSubmatch(s)
	if found == nil {
		return nil, api.ErrSyntax
	}
	size, _ := new(big.Int).SetString(found[1], 10)
	if size.Cmp(big.NewInt(api.MaxText)) > 0 {
		return nil, api.ErrSyntax
	}
	bytes, n := s[len(found[0]):], int(size.Int64())
	if len(bytes) < n {
		return nil, api.ErrTruncated
	}
	others, problem := unpacked(bytes[n:])
	if problem != api.OK {
		return nil, problem
	}
	return append([]string{bytes[:n]}, others...), api.OK
}

// takenAll is what TakeInts returns.
func takenAll(s string, most int) ([]int, api.Errno) {
	texts, problem := unpacked(s)
	if problem != api.OK {
		return nil, problem
	}
	if len(texts) > most {
		return nil, api.ErrLimit
	}
	var l []int
	for _, text := range texts {
		n, problem := taken(text)
		if problem != api.OK {
			return nil, problem
		}
		l = append(l, n)
	}
	return l, api.OK
}

// checkTakeInt compares TakeInt with the chapter.
func checkTakeInt(t *testing.T, s string) {
	t.Helper()
	want, expected := taken(s)
	if n, problem := wire.TakeInt(s); n != want || problem != expected {
		t.Errorf("TakeInt(%.60q) of %d bytes is %d, %d; want %d, %d", s, len(s), n, problem, want, expected)
	}
}

// checkUnpack compares Unpack with the chapter.
func checkUnpack(t *testing.T, s string) {
	t.Helper()
	want, expected := unpacked(s)
	if l, problem := wire.Unpack(s); !slices.Equal(l, want) || problem != expected {
		t.Errorf("Unpack(%.60q) of %d bytes is %.60q, %d; want %.60q, %d", s, len(s), l, problem, want, expected)
	}
}

// checkTakeInts compares TakeInts with the chapter.
func checkTakeInts(t *testing.T, s string, most int) {
	t.Helper()
	want, expected := takenAll(s, most)
	if l, problem := wire.TakeInts(s, most); !slices.Equal(l, want) || problem != expected {
		t.Errorf("TakeInts(%.60q, %d) is %v, %d; want %v, %d", s, most, l, problem, want, expected)
	}
}

// refused requires an error for an encoding of texts, and no texts; the same for one of numbers, however many are permitted.
func refused(t *testing.T, s string, want api.Errno) {
	t.Helper()
	if l, problem := wire.Unpack(s); len(l) != 0 || problem != want {
		t.Errorf("Unpack(%.60q) of %d bytes is %.60q, %d; want %d", s, len(s), l, problem, want)
	}
	for _, most := range []int{math.MinInt, -1, 0, 1, math.MaxInt} {
		if l, problem := wire.TakeInts(s, most); len(l) != 0 || problem != want {
			t.Errorf("TakeInts(%.60q, %d) is %v, %d; want %d", s, most, l, problem, want)
		}
	}
}

// allBytes has each byte once.
func allBytes() string {
	var b []byte
	for c := range 256 {
		b = append(b, byte(c))
	}
	return string(b)
}

// lists are lists of texts that can be encoded and restored.
func lists() [][]string {
	longest := strings.Repeat("3:abc", api.MaxText/5+1)[:api.MaxText]
	return [][]string{
		nil, {""}, {"", ""}, {"", "", ""}, {"a"}, {"ab", "", "c:d"}, {"", "a"}, {"a", ""}, {"", "a", "", "b", ""},
		{":"}, {"::"}, {"0:"}, {"1:a"}, {"2:ab0:"}, {"1", ":", "-", "0"}, {"-"}, {"-1"}, {"5:hello", "12:-"}, {"123456789", "1234567890"}, {"9999999999:", "16385:"},
		{allBytes()}, {"\x00", "\x00\x00"}, {"\xff\xfe", "\xc3"}, {"é", "日本", "\U0001f600"}, {"\n", "\r\n", "\t"}, {"1:\n"},
		strings.Split(allBytes(), ""), strings.Split(strings.Repeat("x", 3000), ""), make([]string, 3000),
		{strings.Repeat("7", 9)}, {strings.Repeat("7", 10)}, {strings.Repeat("-", 99)}, {strings.Repeat(":", 100)}, {strings.Repeat("0", 999), strings.Repeat("1", 1000)}, {strings.Repeat("\x00", 9999), strings.Repeat("\xff", 10000)},
		{strings.Repeat("x", api.MaxText)}, {strings.Repeat("x", api.MaxText-1)}, {longest, "", longest, longest}, {"", longest, ""},
	}
}

// numbers are the edges of ints, and others.
func numbers() []int {
	l := []int{0, 1, -1, 9, -9, 10, -10, math.MaxInt, math.MaxInt - 1, math.MinInt, math.MinInt + 1, api.MaxAmount, -api.MaxAmount}
	for n := 1; n <= math.MaxInt/10; n *= 10 {
		for near := -2; near <= 2; near++ {
			l = append(l, 10*n+near, -10*n+near)
		}
	}
	for shift := range 63 {
		l = append(l, 1<<shift-1, 1<<shift, -1<<shift, -1<<shift-1)
	}
	random := seeded()
	for range 2000 {
		l = append(l, int(random.Uint64())>>random.IntN(64))
	}
	return l
}

// texts returns all texts of at most a number of the bytes.
func texts(bytes string, most int) []string {
	l, last := []string{""}, []string{""}
	for range most {
		var longer []string
		for _, s := range last {
			for at := range len(bytes) {
				longer = append(longer, s+bytes[at:at+1])
			}
		}
		l, last = append(l, longer...), longer
	}
	return l
}
