package date_test

import (
	"fmt"
	"regexp"
	"strconv"
	"strings"
	"testing"

	"corebank/api"
	"corebank/date"
)

// text is the text of a civil date.
func text(c civil) string { return fmt.Sprintf("%04d-%02d-%02d", c.year, c.month, c.day) }

// shape is that of the texts of days.
var shape = regexp.MustCompile(`^([0-9]{4})-([0-9]{2})-([0-9]{2})\z`)

// read is what Parse returns, by the shape of the text and the list of all days.
func read(days map[civil]int, s string) (int, api.Errno) {
	parts := shape.FindStringSubmatch(s)
	if parts == nil {
		return 0, api.ErrSyntax
	}
	var numbers [3]int
	for i := range numbers {
		numbers[i], _ = strconv.Atoi(parts[i+1])
	}
	day, exists := days[civil{numbers[0], numbers[1], numbers[2]}]
	if !exists {
		return 0, api.ErrArg
	}
	return day, api.OK
}

// days are the days by their civil dates.
func days() map[civil]int {
	m := map[civil]int{}
	for day, c := range dates() {
		m[c] = day
	}
	return m
}

// refused requires an error for a text, and no day.
func refused(t *testing.T, s string, want api.Errno) {
	t.Helper()
	if day, e := date.Parse(s); day != 0 || e != want {
		t.Errorf("Parse(%.40q) of %d bytes is %d, %d, not error %d", s, len(s), day, e, want)
	}
}

// P4.8
func TestFormat(t *testing.T) {
	for day, want := range map[int]string{0: "2000-01-01", 8: "2000-01-09", 9: "2000-01-10", 59: "2000-02-29", 60: "2000-03-01", 273: "2000-09-30", 274: "2000-10-01", 365: "2000-12-31", 36525: "2100-01-01", api.MaxDay: "2199-12-31"} {
		if s := date.Format(day); s != want {
			t.Errorf("Format(%d) is %q, not %q", day, s, want)
		}
	}
	for day, c := range dates() {
		if s := date.Format(day); s != text(c) {
			t.Fatalf("Format(%d) is %q, not %q", day, s, text(c))
		}
	}
	for _, day := range noDays {
		if s := date.Format(day); s != "" {
			t.Errorf("Format(%d) is %q", day, s)
		}
	}
}

// P4.9
func TestParse(t *testing.T) {
	for day, c := range dates() {
		if got, e := date.Parse(text(c)); got != day || e != api.OK {
			t.Fatalf("Parse(%q) is %d, %d, not %d", text(c), got, e, day)
		}
	}
}

// P4.9: texts of the right shape, with every month and day of two digits.
func TestParseOfTheRightShape(t *testing.T) {
	known := days()
	years := []int{0, 1, 1600, 1900, 1999, 2000, 2001, 2004, 2099, 2100, 2101, 2199, 2200, 2400, 9999}
	for _, year := range years {
		for month := range 100 {
			for day := range 100 {
				s := text(civil{year, month, day})
				want, problem := read(known, s)
				if got, e := date.Parse(s); got != want || e != problem {
					t.Fatalf("Parse(%q) is %d, %d, not %d, %d", s, got, e, want, problem)
				}
			}
		}
	}
	for year := range 10000 {
		s := text(civil{year, 2, 29})
		want, problem := read(known, s)
		if got, e := date.Parse(s); got != want || e != problem {
			t.Fatalf("Parse(%q) is %d, %d, not %d, %d", s, got, e, want, problem)
		}
	}
}

// P4.9
func TestParseArg(t *testing.T) {
	for _, s := range []string{
		"1999-12-31", "2000-02-30", "2001-02-29", "2100-02-29", "2200-01-01", "0000-00-00", "9999-99-99", "2000-00-01", "2000-13-01", "2000-01-00", "2000-01-32", "2000-04-31", "2000-06-31", "2000-09-31", "2000-11-31",
		"0000-01-01", "1900-01-01", "9999-12-31",
	} {
		refused(t, s, api.ErrArg)
	}
}

// P4.9: also where the date would not exist, so that ErrSyntax is the first error.
func TestParseSyntax(t *testing.T) {
	for _, s := range []string{
		"", "-", "--", "2000", "2000-01", "2000-01-", "2000-01-1", "2000-1-1", "2000-1-01", "2000-01-011", "200-01-01", "20000-01-01", "02000-01-01", "00-01-01", "2000-001-01", "2000-01-001", "1999-12-3", "2000-2-30",
		"20000101", "2000/01/01", "2000.01.01", "2000:01:01", "2000-01:01", "2000:01-01", "2000 01 01", "2000-01-01 ", " 2000-01-01", "2000-01-0 ", "2000- 1-01", " 000-01-01", "2000-01-01\n", "2000-01-01\x00", "2000-01-01Z", "2000-01-01T00:00:00",
		"-200-01-01", "+200-01-01", "2000--1-01", "2000-+1-01", "2000-01--1", "2000-01-+1", "2000-0101-", "-2000-01-01", "----------", "2000-01-0x", "0x00-01-01", "2_00-01-01", "2e03-01-01", "01-01-2000", "01-2000-01", "200-001-01", "2000-011-1", "20000-1-01",
		"Y000-01-01", "yyyy-mm-dd", "2000\u201301-01", "2000-01\u20131", "\u0662000-01-01", "２０００-01-01", "２-01-01", "2000-1\u0663-1", "\xff\xff\xff\xff-\xff\xff-\xff\xff", "\x00\x00\x00\x00\x00\x00\x00\x00\x00\x00",
		"9999-99-9x", "1999-12_31", "0000-0x-00", "x999-13-32", "2001-02-29x",
	} {
		refused(t, s, api.ErrSyntax)
	}
}

// P4.9: every byte at every place.
func TestParseWithEachByte(t *testing.T) {
	known := days()
	for _, s := range []string{"2000-01-01", "2011-11-11", "2199-12-31", "2024-02-29", "1999-99-99"} {
		for place := range len(s) {
			for b := range 256 {
				other := []byte(s)
				other[place] = byte(b)
				want, problem := read(known, string(other))
				if got, e := date.Parse(string(other)); got != want || e != problem {
					t.Fatalf("Parse(%q) is %d, %d, not %d, %d", other, got, e, want, problem)
				}
			}
		}
	}
}

// P4.9: texts of every other length.
func TestParseLengths(t *testing.T) {
	for length := range 3000 {
		if length == 10 {
			continue
		}
		for _, piece := range []string{"2000-01-01", "0", "2", "-", "x", "\x00"} {
			refused(t, strings.Repeat(piece, length/len(piece)+1)[:length], api.ErrSyntax)
		}
	}
	refused(t, strings.Repeat("2000-01-01", 1<<18), api.ErrSyntax)
	refused(t, strings.Repeat("0", 1<<22)+"2000-01-01", api.ErrSyntax)
}

// P4.10: each day is found again from its text, and no text with a byte changed, added or left out is read as that day.
func TestParseOfFormat(t *testing.T) {
	for day := range api.MaxDay + 1 {
		s := date.Format(day)
		if back, e := date.Parse(s); back != day || e != api.OK {
			t.Fatalf("Parse(%q) is %d, %d, not %d", s, back, e, day)
		}
	}
	random := seeded()
	for range 100000 {
		day := random.IntN(api.MaxDay + 1)
		s := date.Format(day)
		place, c := random.IntN(len(s)), "0123456789-+ /"[random.IntN(14)]
		for _, other := range []string{s[:place] + string(c) + s[place+1:], s[:place] + string(c) + s[place:], s + string(c), s[:place] + s[place+1:]} {
			if got, e := date.Parse(other); e == api.OK && date.Format(got) != other {
				t.Fatalf("Parse(%q) is %d, whose text is %q", other, got, date.Format(got))
			}
		}
	}
}

// P4.10: every text that is accepted is the text of its day.
func TestFormatOfParse(t *testing.T) {
	const pieces = "012-3 x"
	texts := []string{""}
	for range 3 {
		var longer []string
		for _, s := range texts {
			for _, c := range pieces {
				longer = append(longer, s+string(c))
			}
		}
		texts = longer
	}
	for _, first := range texts {
		for _, last := range texts {
			s := "20" + first[:2] + "-0" + first[2:] + "-" + last
			for _, other := range []string{s, s[:10]} {
				if day, e := date.Parse(other); e == api.OK && date.Format(day) != other {
					t.Fatalf("Parse(%q) is %d, whose text is %q", other, day, date.Format(day))
				}
			}
		}
	}
}
