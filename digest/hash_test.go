package digest_test

import (
	"math"
	"slices"
	"strings"
	"testing"

	"corebank/digest"
)

// P8.1
func TestHash(t *testing.T) {
	for s, want := range map[string]uint64{
		"": 0xcbf29ce484222325, "a": 0xaf63dc4c8601ec8c, "b": 0xaf63df4c8601f1a5, "\x00": 0xaf63bd4c8601b7df, "\xff": 0xaf64724c8602eb6e,
		"foobar": 0x85944171f73967e8, "ab": 0x089c4407b545986a, "ba": 0x08a63307b54dd00c, "é": 0x0ac21707b7181e01, "CB0000100033": 0x3eb88b9b54b03e5f,
		"\x00\x00\x00\x00\x00\x00\x00\x00": 0xa8c7f832281a39c5, "\xff\xff\xff\xff\xff\xff\xff\xff": 0x8cf51a8bfca3883d, allBytes(): 0x4242dc5249c33625,
	} {
		if h := digest.Hash(s); h != want {
			t.Errorf("Hash(%q) is %x; want %x", s, h, want)
		}
	}
	for _, s := range contents() {
		if h, want := digest.Hash(s), fnv1a([]byte(s)); h != want {
			t.Errorf("Hash(%.60q) of %d bytes is %x; want %x", s, len(s), h, want)
		}
	}
}

// P8.1
func TestChain(t *testing.T) {
	for _, c := range []struct {
		prev uint64
		s    string
		want uint64
	}{
		{0, "", 0xa8c7f832281a39c5}, {math.MaxUint64, "", 0x8cf51a8bfca3883d}, {0, "a", 0xe604613a248ff1ac}, {math.MaxUint64, "a", 0x280477de49e0b454},
		{1, "a", 0x529a4ddc8ff56bbf}, {1 << 56, "a", 0xe6017d3a248deb69}, {0xcbf29ce484222325, "", 0xf4ed18ebf16aa5cc}, {0x0102030405060708, "", 0x0c6d4496e17859d5}, {0x0102030405060708, "abc", 0xa13d407dc579ac5b},
	} {
		if h := digest.Chain(c.prev, c.s); h != c.want {
			t.Errorf("Chain(%x, %q) is %x; want %x", c.prev, c.s, h, c.want)
		}
	}
	for _, prev := range hashes() {
		for _, s := range []string{"", "\x00", "a", "foobar", "\xff\x00\x80", allBytes()} {
			if h, want := digest.Chain(prev, s), fnv1a(append(eight(prev), s...)); h != want {
				t.Errorf("Chain(%x, %.60q) is %x; want %x", prev, s, h, want)
			}
		}
	}
	for _, s := range contents() {
		for _, prev := range []uint64{0, 0x0102030405060708, math.MaxUint64} {
			if h, want := digest.Chain(prev, s), fnv1a(append(eight(prev), s...)); h != want {
				t.Errorf("Chain(%x, %.60q) is %x; want %x", prev, s, h, want)
			}
		}
	}
}

// P8.1
func TestPair(t *testing.T) {
	for _, c := range []struct{ a, b, want uint64 }{
		{0, 0, 0x88201fb960ff6465}, {0, math.MaxUint64, 0x821e65573beff6dd}, {math.MaxUint64, 0, 0x780d5836696931dd}, {math.MaxUint64, math.MaxUint64, 0xd6607508f5a1e855},
		{1, 2, 0x7717980363c8e066}, {2, 1, 0x072184407c3a4ac6}, {0, 1, 0x692558b056101a44}, {1, 0, 0x392209f14dea4c24}, {0x0102030405060708, 0x1112131415161718, 0x71bfdb7af9e7e425},
	} {
		if h := digest.Pair(c.a, c.b); h != c.want {
			t.Errorf("Pair(%x, %x) is %x; want %x", c.a, c.b, h, c.want)
		}
	}
	all := hashes()
	for at, a := range all {
		for _, b := range append(all[:8:8], all[len(all)-1-at], all[at]) {
			if h, want := digest.Pair(a, b), fnv1a(slices.Concat(eight(a), eight(b))); h != want {
				t.Errorf("Pair(%x, %x) is %x; want %x", a, b, h, want)
			}
		}
	}
}

// P8.1: what is hashed are the bytes alone, so the three functions agree where these do.
func TestSameBytes(t *testing.T) {
	for _, h := range hashes() {
		bytes := string(eight(h))
		if digest.Chain(h, "") != digest.Hash(bytes) || digest.Chain(h, "ab") != digest.Hash(bytes+"ab") {
			t.Errorf("Chain(%x) and Hash(%q) are different", h, bytes)
		}
		for _, other := range []uint64{0, 0x0102030405060708, math.MaxUint64, h} {
			if digest.Pair(other, h) != digest.Chain(other, bytes) {
				t.Errorf("Pair(%x, %x) and Chain(%x, %q) are different", other, h, other, bytes)
			}
		}
	}
}

// P8.7
func TestContinued(t *testing.T) {
	for _, s := range []string{"", "a", "ab", "foobar", "\x00\x00\x00", "日本\xff", allBytes(), strings.Repeat("CB0000100033", 40)} {
		whole, chained := digest.Hash(s), digest.Chain(7, s)
		for at := range len(s) + 1 {
			if h := continued(digest.Hash(s[:at]), s[at:]); h != whole {
				t.Errorf("going on from Hash(%q) with %q leads to %x; want %x", s[:at], s[at:], h, whole)
			}
			if h := continued(digest.Chain(7, s[:at]), s[at:]); h != chained {
				t.Errorf("going on from Chain(7, %q) with %q leads to %x; want %x", s[:at], s[at:], h, chained)
			}
		}
	}
}
