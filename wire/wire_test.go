package wire_test

import (
	"slices"
	"strings"
	"testing"

	"corebank/api"
	"corebank/wire"
)

// P7.1
func TestPack(t *testing.T) {
	for _, c := range []struct {
		l    []string
		want string
	}{
		{nil, ""}, {[]string{}, ""}, {[]string{""}, "0:"}, {[]string{"", ""}, "0:0:"}, {[]string{"ab", "", "c:d"}, "2:ab0:3:c:d"},
		{[]string{":"}, "1::"}, {[]string{"0:"}, "2:0:"}, {[]string{"-1", "12"}, "2:-12:12"}, {[]string{"123456789", "1234567890"}, "9:12345678910:1234567890"},
		{[]string{"\x00\xff"}, "2:\x00\xff"}, {[]string{"é"}, "2:é"}, {[]string{"日本"}, "6:日本"}, {[]string{"\xc3", "\xa9"}, "1:\xc31:\xa9"}, {[]string{"\n"}, "1:\n"},
		{[]string{strings.Repeat("x", 99), strings.Repeat("y", 100)}, "99:" + strings.Repeat("x", 99) + "100:" + strings.Repeat("y", 100)},
		{[]string{strings.Repeat("x", api.MaxText)}, "16384:" + strings.Repeat("x", api.MaxText)},
	} {
		if s := wire.Pack(c.l); s != c.want {
			t.Errorf("Pack(%.60q) is %.60q; want %.60q", c.l, s, c.want)
		}
	}
	for _, l := range lists() {
		if s := wire.Pack(l); s != packed(l) {
			t.Errorf("Pack(%.60q) is %.60q", l, s)
		}
	}
}

// P7.1, P7.2: texts that are longer than those that can be restored have encodings, too.
func TestPackLongTexts(t *testing.T) {
	for _, size := range []int{api.MaxText + 1, 99999, 100000, 1 << 20} {
		l := []string{"a", strings.Repeat("x", size)}
		if s := wire.Pack(l); s != packed(l) {
			t.Errorf("Pack of %d bytes is %.60q", size, s)
		}
		refused(t, wire.Pack(l), api.ErrSyntax)
	}
}

// P7.2
func TestUnpack(t *testing.T) {
	for _, c := range []struct {
		s    string
		want []string
	}{
		{"", nil}, {"0:", []string{""}}, {"0:0:", []string{"", ""}}, {"2:ab0:3:c:d", []string{"ab", "", "c:d"}}, {"1::", []string{":"}}, {"2:0:", []string{"0:"}}, {"2:-12:12", []string{"-1", "12"}},
		{"9:12345678910:1234567890", []string{"123456789", "1234567890"}}, {"2:\x00\xff", []string{"\x00\xff"}}, {"1:\xc31:\xa9", []string{"\xc3", "\xa9"}},
		{"16384:" + strings.Repeat(":", api.MaxText) + "0:", []string{strings.Repeat(":", api.MaxText), ""}},
	} {
		if l, problem := wire.Unpack(c.s); !slices.Equal(l, c.want) || problem != api.OK {
			t.Errorf("Unpack(%.60q) is %.60q, %d; want %.60q", c.s, l, problem, c.want)
		}
	}
}

// P7.2, P7.6: the first text, and one behind others, is not preceded by the decimal form of its length and a colon.
func TestUnpackSyntax(t *testing.T) {
	long := strings.Repeat("x", 2*api.MaxText)
	for _, s := range []string{
		"02:ab", "2", "0", "16384", ":", ":ab", "::", "a", "a:", "ab:c", "-", "-:", "x2:ab", "2x:ab", "2ab", "2 :ab", " 2:ab", "2;ab", "12345", "\n", "\x00", "\x00:", "\xff:a",
		"00:", "00", "01:a", "000002:ab", "+2:ab", "+0:", "-0:", "-1:a", "-2:ab", "--2:ab", "-16384:", "- 1:a", "-9223372036854775808:a", "2.0:ab", "0x2:ab", "1e0:a", "1_0:aaaaaaaaaa", "1,0:aaaaaaaaaa", "٢:ab", "２:ab",
		"16385:", "16385:" + long, "16385:a", "16390:" + long, "20000:" + long, "32768:" + long, "99999:" + long, "100000:" + long, "163840:" + long, "65536:", "4294967296:", "4294967298:ab", "9223372036854775807:", "9223372036854775808:", "9223372036854775809:ab",
		"18446744073709551615:", "18446744073709551616:", "18446744073709551618:ab", "-18446744073709551614:ab", "340282366920938463463374607431768211458:ab", strings.Repeat("9", 100000) + ":ab", strings.Repeat("9", 100000), strings.Repeat("0", 100000) + ":", "1" + strings.Repeat("0", 100000) + "x:",
	} {
		refused(t, s, api.ErrSyntax)
		refused(t, "2:ab"+s, api.ErrSyntax)
		refused(t, "0:1:71::"+s, api.ErrSyntax)
	}
}

// P7.2, P7.6
func TestUnpackTruncated(t *testing.T) {
	for _, s := range []string{"3:ab", "1:", "2:a", "2::", "16384:", "16384:" + strings.Repeat("x", api.MaxText-1), "10:123456789", "100:" + strings.Repeat("x", 99), "9:9:9:9:", "3:\xff\xff"} {
		refused(t, s, api.ErrTruncated)
		refused(t, "2:ab"+s, api.ErrTruncated)
		refused(t, "0:1:71::"+s, api.ErrTruncated)
	}
}

// P7.2: of several errors, that of the first text for which there is one.
func TestUnpackFirstError(t *testing.T) {
	for s, want := range map[string]api.Errno{
		"02:a": api.ErrSyntax, "16385:a": api.ErrSyntax, "1:a02:3:ab": api.ErrSyntax, "1:a3:ab": api.ErrTruncated, "9:a02:": api.ErrTruncated, "x3:ab": api.ErrSyntax,
		// What looks like a wrong length can belong to the text before it.
		"3:ab02:": api.ErrTruncated, "4:ab02:": api.ErrSyntax, "5:a02:b3:": api.ErrTruncated,
		"1:ab": api.ErrSyntax, "2:abc": api.ErrSyntax, "2:ab3": api.ErrSyntax, "2:ab3:": api.ErrTruncated, "0:x": api.ErrSyntax, "0::": api.ErrSyntax,
	} {
		refused(t, s, want)
	}
}

// P7.2, P7.7: every short text of bytes that matter.
func TestUnpackShortTexts(t *testing.T) {
	for _, s := range texts("012:-+x", 6) {
		checkUnpack(t, s)
		if l, problem := wire.Unpack(s); problem == api.OK && packed(l) != s {
			t.Errorf("Unpack(%q) is %q, whose encoding is another", s, l)
		}
	}
}

// P7.2: every byte at every place of an encoding; bytes that are too many, and that are missing.
func TestUnpackTextsNearEncodings(t *testing.T) {
	for _, l := range [][]string{{"ab", "", "c:d"}, {"", "1234567890", "2:"}, {"\x00\xff", "0:", "-1"}, {strings.Repeat("1:", 60)}} {
		s := packed(l)
		for place := range len(s) {
			checkUnpack(t, s[:place])
			checkUnpack(t, s[place:])
			checkUnpack(t, s[:place]+s[place+1:])
			for b := range 256 {
				c := string([]byte{byte(b)})
				checkUnpack(t, s[:place]+c+s[place+1:])
				checkUnpack(t, s[:place]+c+s[place:])
				checkUnpack(t, s+c)
			}
		}
	}
}

// P7.5
func TestInts(t *testing.T) {
	for _, c := range []struct {
		l    []int
		want string
	}{
		{nil, ""}, {[]int{}, ""}, {[]int{7, -8}, "1:72:-8"}, {[]int{0}, "1:0"}, {[]int{0, 0}, "1:01:0"}, {[]int{1, -1, 10}, "1:12:-12:10"}, {[]int{-1 << 63, 1<<63 - 1}, "20:-922337203685477580819:9223372036854775807"},
	} {
		if s := wire.Ints(c.l); s != c.want {
			t.Errorf("Ints(%v) is %q; want %q", c.l, s, c.want)
		}
	}
	if all := numbers(); wire.Ints(all) != packed(numerals(all)) {
		t.Error("Ints of many numbers is another")
	}
}
