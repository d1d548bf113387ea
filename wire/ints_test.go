package wire_test

import (
	"math"
	"slices"
	"strings"
	"testing"

	"corebank/api"
	"corebank/wire"
)

// P7.6
func TestTakeInts(t *testing.T) {
	for _, c := range []struct {
		s       string
		most    int
		want    []int
		problem api.Errno
	}{
		{"", 0, nil, api.OK}, {"", 5, nil, api.OK}, {"", math.MaxInt, nil, api.OK}, {"1:72:-8", 2, []int{7, -8}, api.OK}, {"1:72:-8", math.MaxInt, []int{7, -8}, api.OK},
		{"1:0", 1, []int{0}, api.OK}, {"1:01:0", 2, []int{0, 0}, api.OK}, {"20:-922337203685477580819:9223372036854775807", 2, []int{math.MinInt, math.MaxInt}, api.OK},
		{"1:71:8", 1, nil, api.ErrLimit}, {"1:7", 0, nil, api.ErrLimit}, {"1:7", -1, nil, api.ErrLimit}, {"1:71:8", math.MinInt, nil, api.ErrLimit}, {"", -1, nil, api.ErrLimit}, {"", math.MinInt, nil, api.ErrLimit},
		{"1:x", 1, nil, api.ErrSyntax}, {"0:", 1, nil, api.ErrSyntax}, {"1:71:x", 2, nil, api.ErrSyntax}, {"2:-0", 1, nil, api.ErrSyntax}, {"2:07", 1, nil, api.ErrSyntax}, {"19:9223372036854775808", 1, nil, api.ErrOverflow}, {"1:720:-9223372036854775809", 2, nil, api.ErrOverflow},
	} {
		if l, problem := wire.TakeInts(c.s, c.most); !slices.Equal(l, c.want) || problem != c.problem {
			t.Errorf("TakeInts(%q, %d) is %v, %d; want %v, %d", c.s, c.most, l, problem, c.want, c.problem)
		}
	}
}

// P7.6: the order of the errors.
func TestTakeIntsFirstError(t *testing.T) {
	const great = "19:9999999999999999999"
	for _, c := range []struct {
		s       string
		most    int
		problem api.Errno
	}{
		// An encoding that is not valid counts more than too many texts, and than wrong ones before it.
		{"1:71:81:", 1, api.ErrTruncated}, {"1:71:8x", 1, api.ErrSyntax}, {"1:x2:a", 2, api.ErrTruncated}, {great + "2:a", 2, api.ErrTruncated}, {great + "02:ab", 2, api.ErrSyntax}, {"1:x2:a", 0, api.ErrTruncated}, {great + "x", 0, api.ErrSyntax}, {"3:ab", -1, api.ErrTruncated}, {"x", -1, api.ErrSyntax},
		// Too many texts count more than wrong ones.
		{"1:x1:7", 1, api.ErrLimit}, {"1:71:x", 1, api.ErrLimit}, {great + "1:7", 1, api.ErrLimit}, {"0:", 0, api.ErrLimit}, {"0:0:0:", 2, api.ErrLimit}, {great, -1, api.ErrLimit},
		// The first wrong text counts.
		{"1:x" + great, 2, api.ErrSyntax}, {great + "1:x", 2, api.ErrOverflow}, {"1:7" + great + "0:", 3, api.ErrOverflow}, {"1:70:" + great, 3, api.ErrSyntax},
	} {
		if l, problem := wire.TakeInts(c.s, c.most); len(l) != 0 || problem != c.problem {
			t.Errorf("TakeInts(%q, %d) is %v, %d; want %d", c.s, c.most, l, problem, c.problem)
		}
	}
}

// P7.6: as many as there are numbers, one less, and one more.
func TestTakeIntsMost(t *testing.T) {
	all := numbers()
	for _, count := range []int{0, 1, 2, 3, 9, 10, api.MaxList, 1000, len(all)} {
		l := all[:count]
		s := packed(numerals(l))
		for _, most := range []int{count, count + 1, math.MaxInt} {
			if back, problem := wire.TakeInts(s, most); !slices.Equal(back, l) || problem != api.OK {
				t.Errorf("TakeInts of %d numbers, with most %d, is %d numbers, %d", count, most, len(back), problem)
			}
		}
		for _, most := range []int{count - 1, -1, math.MinInt} {
			if back, problem := wire.TakeInts(s, most); len(back) != 0 || problem != api.ErrLimit {
				t.Errorf("TakeInts of %d numbers, with most %d, is %d numbers, %d", count, most, len(back), problem)
			}
		}
	}
}

// P7.6, P7.7: every short text of bytes that matter.
func TestTakeIntsShortTexts(t *testing.T) {
	for _, s := range texts("012:-x", 6) {
		for _, most := range []int{-1, 0, 1, 2, 3} {
			checkTakeInts(t, s, most)
			if l, problem := wire.TakeInts(s, most); problem == api.OK && packed(numerals(l)) != s {
				t.Errorf("TakeInts(%q, %d) is %v, whose encoding is another", s, most, l)
			}
		}
	}
}

// P7.7
func TestRestored(t *testing.T) {
	for _, l := range lists() {
		if back, problem := wire.Unpack(wire.Pack(l)); !slices.Equal(back, l) || problem != api.OK {
			t.Errorf("Unpack of Pack(%.60q) is %.60q, %d", l, back, problem)
		}
	}
	for _, n := range numbers() {
		l := []int{n, 0, -n, n}
		if back, problem := wire.TakeInts(wire.Ints(l), len(l)); !slices.Equal(back, l) || problem != api.OK {
			t.Errorf("TakeInts of Ints(%v) is %v, %d", l, back, problem)
		}
	}
}

// mixed returns a list of texts of bytes that occur in encodings.
func mixed(most int) []string {
	const bytes = "0123456789:-+ax\x00\xff"
	random := seeded()
	var l []string
	for range most {
		var b []byte
		for range random.IntN(14) {
			b = append(b, bytes[random.IntN(len(bytes))])
		}
		l = append(l, string(b))
	}
	return l
}

// P7.7: encodings that a byte was put into, and what is left of one, are restored as what they are.
func TestRestoredMixed(t *testing.T) {
	all, random := mixed(4000), seeded()
	for at := range all {
		l := all[at:min(at+random.IntN(5), len(all))]
		s := wire.Pack(l)
		if back, problem := wire.Unpack(s); !slices.Equal(back, l) || problem != api.OK {
			t.Fatalf("Unpack of Pack(%q) is %q, %d", l, back, problem)
		}
		place := random.IntN(len(s) + 1)
		c := "0123456789:-+ "[random.IntN(14)]
		for _, other := range []string{s[:place] + string(c) + s[place:], s[:place], s[place:], s[place:] + s[:place]} {
			checkUnpack(t, other)
			checkTakeInts(t, other, random.IntN(4))
		}
	}
}

// P7.8
func TestOneAfterTheOther(t *testing.T) {
	for _, a := range lists() {
		for _, b := range lists() {
			both, s := slices.Concat(a, b), wire.Pack(a)+wire.Pack(b)
			if wire.Pack(both) != s {
				t.Errorf("Pack of %.60q and %.60q is another", a, b)
			}
			if back, problem := wire.Unpack(s); !slices.Equal(back, both) || problem != api.OK {
				t.Errorf("Unpack of the encodings of %.60q and %.60q is %.60q, %d", a, b, back, problem)
			}
		}
	}
	all := numbers()
	for at := range 100 {
		a, b := all[:at], all[at:at+at%7]
		both, s := slices.Concat(a, b), wire.Ints(a)+wire.Ints(b)
		if wire.Ints(both) != s {
			t.Errorf("Ints of %v and %v is another", a, b)
		}
		if back, problem := wire.TakeInts(s, len(both)); !slices.Equal(back, both) || problem != api.OK {
			t.Errorf("TakeInts of the encodings of %v and %v is %v, %d", a, b, back, problem)
		}
	}
}

// P0.4: arguments are not changed, and results share nothing.
func TestNothingShared(t *testing.T) {
	texts, numbers := []string{"ab", "", "c:d"}, []int{7, -8}
	s, digits := wire.Pack(texts), wire.Ints(numbers)
	first, _ := wire.Unpack(s)
	values, _ := wire.TakeInts(digits, 2)
	first[0], values[0] = "x", 1
	_, _ = append(first[:1], "y"), append(values[:1], 2)
	if again, _ := wire.Unpack(s); !slices.Equal(again, texts) {
		t.Errorf("Unpack(%q) is %q", s, again)
	}
	if again, _ := wire.TakeInts(digits, 2); !slices.Equal(again, numbers) {
		t.Errorf("TakeInts(%q) is %v", digits, again)
	}
	if !slices.Equal(texts, []string{"ab", "", "c:d"}) || !slices.Equal(numbers, []int{7, -8}) || s != "2:ab0:3:c:d" || digits != "1:72:-8" {
		t.Error("an argument has changed", texts, numbers, s, digits)
	}
}

// P0.1: an encoding of very many texts, and one that goes wrong at its end.
func TestManyTexts(t *testing.T) {
	const many = 1 << 18
	s := strings.Repeat("0:1:7", many)
	if l, problem := wire.Unpack(s); len(l) != 2*many || problem != api.OK {
		t.Errorf("Unpack gives %d texts, %d", len(l), problem)
	}
	refused(t, s+"1:", api.ErrTruncated)
	refused(t, s+"1", api.ErrSyntax)
}
