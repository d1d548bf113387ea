package digest_test

import (
	"encoding/binary"
	"fmt"
	"hash/fnv"
	"math"
	"math/big"
	"math/rand/v2"
	"regexp"
	"strings"
	"testing"

	"corebank/api"
	"corebank/digest"
)

// seeded gives the same numbers in every run.
func seeded() *rand.Rand { return rand.New(rand.NewPCG(8, 8)) }

// fnv1a is the digest of bytes by the standard library.
func fnv1a(b []byte) uint64 {
	h := fnv.New64a()
	h.Write(b)
	return h.Sum64()
}

// continued is the digest of bytes with the digest h, followed by those of s, as the chapter defines it.
func continued(h uint64, s string) uint64 {
	for _, b := range []byte(s) {
		h ^= uint64(b)
		h *= 1099511628211
	}
	return h
}

// eight are the bytes of a digest, the least significant one first.
func eight(h uint64) []byte { return binary.LittleEndian.AppendUint64(nil, h) }

// plain and hexadecimal are the texts that have a value, and the hexadecimal forms.
var (
	plain       = regexp.MustCompile(`^[0-9A-Z]*\z`)
	hexadecimal = regexp.MustCompile(`^[0-9a-f]{16}\z`)
)

// remainder is the value of a text of digits and capital letters modulo 97: the decimal digits are written out first.
func remainder(s string) int {
	decimal := ""
	for _, c := range s {
		if c >= 'A' {
			decimal += fmt.Sprint(c - 'A' + 10)
		} else {
			decimal += string(c)
		}
	}
	value, _ := new(big.Int).SetString(decimal, 10)
	return int(new(big.Int).Mod(value, big.NewInt(97)).Int64())
}

// checkMod97 compares Mod97 with the chapter.
func checkMod97(t *testing.T, s string) {
	t.Helper()
	want, expected := 0, api.OK
	switch {
	case len(s) < 1 || len(s) > 48:
		expected = api.ErrLimit
	case !plain.MatchString(s):
		expected = api.ErrSyntax
	default:
		want = remainder(s)
	}
	if n, problem := digest.Mod97(s); n != want || problem != expected {
		t.Errorf("Mod97(%.60q) of %d bytes is %d, %d; want %d, %d", s, len(s), n, problem, want, expected)
	}
}

// checkSeal compares Seal with the chapter.
func checkSeal(t *testing.T, s string) {
	t.Helper()
	want, expected := "", api.OK
	switch {
	case len(s) < 1 || len(s) > 46:
		expected = api.ErrLimit
	case !plain.MatchString(s):
		expected = api.ErrSyntax
	default:
		want = s + fmt.Sprintf("%02d", 98-remainder(s+"00"))
	}
	if sealed, problem := digest.Seal(s); sealed != want || problem != expected {
		t.Errorf("Seal(%.60q) of %d bytes is %.60q, %d; want %.60q, %d", s, len(s), sealed, problem, want, expected)
	}
}

// checkSealed compares Sealed with the chapter.
func checkSealed(t *testing.T, s string) {
	t.Helper()
	want := len(s) >= 3 && len(s) <= 48 && plain.MatchString(s) && remainder(s) == 1
	if digest.Sealed(s) != want {
		t.Errorf("Sealed(%.60q) of %d bytes is %t", s, len(s), !want)
	}
}

// checkText compares all functions of check digits with the chapter.
func checkText(t *testing.T, s string) {
	t.Helper()
	checkMod97(t, s)
	checkSeal(t, s)
	checkSealed(t, s)
}

// allBytes has each byte once.
func allBytes() string {
	var b []byte
	for c := range 256 {
		b = append(b, byte(c))
	}
	return string(b)
}

// contents are texts with any bytes, and of many lengths.
func contents() []string {
	l := []string{
		"", "\x00\x00", "ab", "ba", "abc", "foobar", "é", "日本", "\xff\xfe", "\xc3", "a\n", "2:ab0:3:c:d", "CB0000100033", allBytes(), strings.Repeat(allBytes(), 20),
		strings.Repeat("\x00", 7), strings.Repeat("\x00", 8), strings.Repeat("\x00", 9), strings.Repeat("\xff", 8), strings.Repeat("\xff", 16), strings.Repeat("x", api.MaxText), strings.Repeat("y", 1<<20),
	}
	l = append(l, strings.Split(allBytes(), "")...)
	for c := range 256 {
		l = append(l, string([]byte{byte(c)}))
	}
	random := seeded()
	for size := range 100 {
		var b []byte
		for range size {
			b = append(b, byte(random.UintN(256)))
		}
		l = append(l, string(b))
	}
	return l
}

// hashes are the edges of digests, those with one bit and those without one, and others.
func hashes() []uint64 {
	l := []uint64{0, 1, 2, 9, 10, 15, 16, 255, 256, math.MaxInt64, math.MaxUint64 - 1, math.MaxUint64, 0x0123456789abcdef, 0xfedcba9876543210, 0x0102030405060708, 14695981039346656037, 1099511628211}
	for bit := range 64 {
		l = append(l, 1<<bit, ^(uint64(1) << bit))
	}
	for place := range 16 {
		for digit := range uint64(16) {
			l = append(l, digit<<(4*place))
		}
	}
	random := seeded()
	for range 500 {
		l = append(l, random.Uint64(), random.Uint64()>>random.UintN(64))
	}
	return l
}

// written returns texts of a number of the bytes, picked at random.
func written(bytes string, size, count int) []string {
	random := seeded()
	var l []string
	for range count {
		var b []byte
		for range size {
			b = append(b, bytes[random.IntN(len(bytes))])
		}
		l = append(l, string(b))
	}
	return l
}

// The bytes of texts that have a value.
const (
	numerals = "0123456789"
	capitals = "ABCDEFGHIJKLMNOPQRSTUVWXYZ"
)

// codes are texts that have a value: of each length, of digits alone, of letters alone and of both.
func codes() []string {
	l := []string{"CB00001000", "CB00001001", "CB99999999", "GB82WEST12345698765432", "A1B2C3D4"}
	for size := 1; size <= api.MaxKey; size++ {
		for _, bytes := range []string{numerals, capitals, numerals + capitals, "09AZ"} {
			l = append(l, written(bytes, size, 6)...)
		}
		for _, c := range numerals + capitals {
			l = append(l, strings.Repeat(string(c), size))
		}
	}
	for _, a := range numerals + capitals {
		for _, b := range numerals + capitals {
			l = append(l, string(a)+string(b))
		}
	}
	for n := range 2000 {
		l = append(l, fmt.Sprint(n), fmt.Sprintf("%04d", n))
	}
	return l
}

// texts returns all texts of at most a number of the bytes.
func texts(bytes string, most int) []string {
	l, last := []string{""}, []string{""}
	for range most {
		var longer []string
		for _, s := range last {
			for at := range len(bytes) {
				longer = append(longer, s+bytes[at:at+1])
			}
		}
		l, last = append(l, longer...), longer
	}
	return l
}
