package digest_test

import (
	"fmt"
	"math"
	"strconv"
	"strings"
	"testing"

	"corebank/api"
	"corebank/digest"
)

// P8.2
func TestHex(t *testing.T) {
	for h, want := range map[uint64]string{
		0: "0000000000000000", 1: "0000000000000001", 10: "000000000000000a", 15: "000000000000000f", 16: "0000000000000010", 1 << 60: "1000000000000000", 1 << 63: "8000000000000000",
		math.MaxUint64: "ffffffffffffffff", math.MaxUint64 - 1: "fffffffffffffffe", math.MaxInt64: "7fffffffffffffff", 0x0123456789abcdef: "0123456789abcdef", 0xfedcba9876543210: "fedcba9876543210",
		digest.Hash(""): "cbf29ce484222325", digest.Hash("a"): "af63dc4c8601ec8c",
	} {
		if s := digest.Hex(h); s != want {
			t.Errorf("Hex(%d) is %q; want %q", h, s, want)
		}
		if back, problem := digest.Unhex(want); back != h || problem != api.OK {
			t.Errorf("Unhex(%q) is %d, %d; want %d", want, back, problem, h)
		}
	}
	for _, h := range hashes() {
		if s := digest.Hex(h); s != fmt.Sprintf("%016x", h) {
			t.Errorf("Hex(%d) is %q", h, s)
		}
	}
}

// noHex requires that a text is not accepted, and no digest.
func noHex(t *testing.T, s string) {
	t.Helper()
	if h, problem := digest.Unhex(s); h != 0 || problem != api.ErrSyntax {
		t.Errorf("Unhex(%.60q) of %d bytes is %x, %d", s, len(s), h, problem)
	}
}

// checkUnhex compares Unhex with the chapter.
func checkUnhex(t *testing.T, s string) {
	t.Helper()
	if !hexadecimal.MatchString(s) {
		noHex(t, s)
		return
	}
	want, _ := strconv.ParseUint(s, 16, 64)
	if h, problem := digest.Unhex(s); h != want || problem != api.OK {
		t.Errorf("Unhex(%q) is %x, %d; want %x", s, h, problem, want)
	}
}

// P8.2
func TestUnhexSyntax(t *testing.T) {
	for _, s := range []string{
		"", "0", "f", "ff", "000000000000000", "00000000000000000", "fffffffffffffff", "fffffffffffffffff", "10000000000000000", "0cbf29ce484222325", "cbf29ce48422232", "cbf29ce4842223250", strings.Repeat("0", 32), strings.Repeat("0", 1<<20),
		"CBF29CE484222325", "cbf29ce48422232A", "Cbf29ce484222325", "FFFFFFFFFFFFFFFF", "ffffffffFfffffff", "000000000000000A", "A000000000000000",
		"+000000000000001", "-000000000000001", "+0000000000000001", "-0000000000000001", "+cbf29ce484222325", "-cbf29ce484222325", "000000000000000-", "--00000000000000",
		"0x00000000000001", "0x0000000000000001", "0X00000000000001", "xcbf29ce48422232", "#cbf29ce48422232", "$cbf29ce48422232", "0o00000000000001", "cbf29ce48422232h", "00000000000000_1", "_000000000000001",
		" 000000000000001", "000000000000001 ", " 0000000000000001", "0000000000000001 ", "0000000 00000001", "                ", "0000000000000001\n", "000000000000001\n", "\t000000000000001", "\r\n00000000000001",
		"000000000000000g", "g000000000000000", "000000000000000:", "000000000000000/", "000000000000000`", "000000000000000@", "000000000000000G", "0.00000000000001", "1e00000000000000.", "000000000000,000",
		"\x00000000000000001", "000000000000000\x00", "\x00\x00\x00\x00\x00\x00\x00\x00\x00\x00\x00\x00\x00\x00\x00\x00", "000000000000000\xff", "00000000000000é", "0000000000000é0", "００００００００００００００００", "٠00000000000000", "０００００0",
	} {
		noHex(t, s)
	}
}

// P8.2: each length.
func TestUnhexLengths(t *testing.T) {
	for _, digit := range "0129abf" {
		for size := range 100 {
			checkUnhex(t, strings.Repeat(string(digit), size))
		}
	}
}

// P8.2: every byte at every place, instead of another one and beside it.
func TestUnhexWithEachByte(t *testing.T) {
	for _, s := range []string{"0000000000000000", "cbf29ce484222325", "ffffffffffffffff", "0123456789abcdef"} {
		for place := range len(s) {
			for b := range 256 {
				c := string([]byte{byte(b)})
				checkUnhex(t, s[:place]+c+s[place+1:])
				checkUnhex(t, s[:place]+c+s[place:])
			}
			checkUnhex(t, s[:place]+s[place+1:])
			checkUnhex(t, s[:place]+s[place:]+s[:place])
		}
	}
}

// P8.7, P8.2: a digest is restored from its form, and only from this one.
func TestUnhexOfHex(t *testing.T) {
	for _, h := range hashes() {
		s := digest.Hex(h)
		if back, problem := digest.Unhex(s); back != h || problem != api.OK {
			t.Errorf("Unhex(%q) is %x, %d; want %x", s, back, problem, h)
		}
		for _, other := range []string{s[1:], s[:15], "0" + s, s + "0", strings.ToUpper(s), "0x" + s[2:], "+" + s[1:], "-" + s[1:], " " + s[1:], s[:15] + " ", s + s} {
			if other != s {
				noHex(t, other)
			}
		}
	}
}
