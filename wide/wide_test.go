package wide_test

import (
	"math"
	"math/big"
	"math/rand/v2"
	"testing"

	"corebank/api"
	"corebank/wide"
)

var (
	greatest = api.Wide{Hi: math.MaxInt, Lo: math.MaxUint64}
	least    = api.Wide{Hi: math.MinInt}
)

// exact is the value that the definition gives to the fields of a.
func exact(a api.Wide) *big.Int {
	high := new(big.Int).Lsh(big.NewInt(int64(a.Hi)), 64)
	return high.Add(high, new(big.Int).SetUint64(a.Lo))
}

// expected returns the wide number with an exact value, or the error.
func expected(x *big.Int) (api.Wide, api.Errno) {
	if x.Cmp(exact(least)) < 0 || x.Cmp(exact(greatest)) > 0 {
		return api.Wide{}, api.ErrOverflow
	}
	lo := new(big.Int).And(x, new(big.Int).SetUint64(math.MaxUint64))
	hi := new(big.Int).Rsh(x, 64)
	return api.Wide{Hi: int(hi.Int64()), Lo: lo.Uint64()}, api.OK
}

// seeded gives the same numbers in every run.
func seeded() *rand.Rand { return rand.New(rand.NewPCG(1, 2)) }

// ints are edges of the range of int, small numbers, and numbers of all lengths.
func ints() []int {
	l := []int{0, 1, 2, 3, 7, 9, 10, 97, api.Year, api.MaxPpm, api.Grain, api.MaxAmount, 1<<31 - 1, 1 << 31, 1<<32 - 1, 1 << 32, 1 << 62, math.MaxInt - 1, math.MaxInt}
	random := seeded()
	for length := range 63 {
		l = append(l, int(random.Uint64()>>(63-length)>>1))
	}
	for _, n := range l {
		l = append(l, -n)
	}
	return append(l, math.MinInt, math.MinInt+1)
}

// wides are edges of the range of wide numbers, the ints, edges of the fields, powers of ten, and numbers of all lengths.
func wides() []api.Wide {
	l := []api.Wide{least, {Hi: math.MinInt, Lo: 1}, {Hi: math.MinInt, Lo: math.MaxUint64}, {Hi: math.MinInt + 1}, greatest, {Hi: math.MaxInt}, {Hi: math.MaxInt, Lo: math.MaxUint64 - 1}}
	for _, hi := range []int{-1 << 62, -2, -1, 0, 1, 2, 1 << 62} {
		for _, lo := range []uint64{0, 1, 2, math.MaxInt, 1 << 63, 1<<63 + 1, math.MaxUint64 - 1, math.MaxUint64} {
			l = append(l, api.Wide{Hi: hi, Lo: lo})
		}
	}
	for _, n := range ints() {
		l = append(l, api.Wide{Hi: n >> 63, Lo: uint64(n)})
	}
	power := big.NewInt(1)
	for range 38 {
		power.Mul(power, big.NewInt(10))
		for _, change := range []int64{-1, 0, 1} {
			x := new(big.Int).Add(power, big.NewInt(change))
			a, _ := expected(x)
			b, _ := expected(x.Neg(x))
			l = append(l, a, b)
		}
	}
	random := seeded()
	for length := range 64 {
		hi := int(random.Uint64()) >> length
		l = append(l, api.Wide{Hi: hi, Lo: random.Uint64()}, api.Wide{Hi: -hi, Lo: random.Uint64()})
	}
	return l
}

// compare reports a result that is not the exact one, or not the error that it requires.
func compare(t *testing.T, what string, got api.Wide, problem api.Errno, x *big.Int) {
	t.Helper()
	if want, e := expected(x); got != want || problem != e {
		t.Fatalf("%s: %v and error %d, not %v and error %d", what, got, problem, want, e)
	}
}

// P1.1
func TestOf(t *testing.T) {
	for n, want := range map[int]api.Wide{
		0: {}, 1: {Lo: 1}, -1: {Hi: -1, Lo: math.MaxUint64}, math.MaxInt: {Lo: math.MaxInt}, math.MinInt: {Hi: -1, Lo: 1 << 63},
	} {
		if a := wide.Of(n); a != want {
			t.Errorf("Of(%d): %v, not %v", n, a, want)
		}
	}
	for _, n := range ints() {
		compare(t, "Of", wide.Of(n), api.OK, big.NewInt(int64(n)))
	}
}

// P1.2
func TestAddAndSub(t *testing.T) {
	for _, a := range wides() {
		for _, b := range wides() {
			sum, e := wide.Add(a, b)
			compare(t, "Add", sum, e, new(big.Int).Add(exact(a), exact(b)))
			difference, e := wide.Sub(a, b)
			compare(t, "Sub", difference, e, new(big.Int).Sub(exact(a), exact(b)))
		}
	}
}

// P1.2
func TestScale(t *testing.T) {
	for _, a := range wides() {
		for _, n := range ints() {
			product, e := wide.Scale(a, n)
			compare(t, "Scale", product, e, new(big.Int).Mul(exact(a), big.NewInt(int64(n))))
		}
	}
}

// P1.2
func TestEdgesOfTheRange(t *testing.T) {
	one := wide.Of(1)
	checks := []struct {
		name string
		got  func() (api.Wide, api.Errno)
		want api.Wide
		e    api.Errno
	}{
		{"greatest + 1", func() (api.Wide, api.Errno) { return wide.Add(greatest, one) }, api.Wide{}, api.ErrOverflow},
		{"least + -1", func() (api.Wide, api.Errno) { return wide.Add(least, wide.Of(-1)) }, api.Wide{}, api.ErrOverflow},
		{"greatest + least", func() (api.Wide, api.Errno) { return wide.Add(greatest, least) }, wide.Of(-1), api.OK},
		{"-1 - least", func() (api.Wide, api.Errno) { return wide.Sub(wide.Of(-1), least) }, greatest, api.OK},
		{"0 - least", func() (api.Wide, api.Errno) { return wide.Sub(api.Wide{}, least) }, api.Wide{}, api.ErrOverflow},
		{"least - least", func() (api.Wide, api.Errno) { return wide.Sub(least, least) }, api.Wide{}, api.OK},
		{"least - 1", func() (api.Wide, api.Errno) { return wide.Sub(least, one) }, api.Wide{}, api.ErrOverflow},
		{"least * -1", func() (api.Wide, api.Errno) { return wide.Scale(least, -1) }, api.Wide{}, api.ErrOverflow},
		{"least * 1", func() (api.Wide, api.Errno) { return wide.Scale(least, 1) }, least, api.OK},
		{"2^64 * least int", func() (api.Wide, api.Errno) { return wide.Scale(api.Wide{Hi: 1}, math.MinInt) }, least, api.OK},
		{"-2^64 * least int", func() (api.Wide, api.Errno) { return wide.Scale(api.Wide{Hi: -1}, math.MinInt) }, api.Wide{}, api.ErrOverflow},
		{"least * 0", func() (api.Wide, api.Errno) { return wide.Scale(least, 0) }, api.Wide{}, api.OK},
	}
	for _, c := range checks {
		if got, e := c.got(); got != c.want || e != c.e {
			t.Errorf("%s: %v and error %d, not %v and error %d", c.name, got, e, c.want, c.e)
		}
	}
}

// P1.3
func TestMul(t *testing.T) {
	if a := wide.Mul(math.MinInt, math.MinInt); a != (api.Wide{Hi: 1 << 62}) {
		t.Errorf("the square of the least int: %v", a)
	}
	for _, a := range ints() {
		for _, b := range ints() {
			compare(t, "Mul", wide.Mul(a, b), api.OK, new(big.Int).Mul(big.NewInt(int64(a)), big.NewInt(int64(b))))
		}
	}
}

// P1.4 and P1.9
func TestDiv(t *testing.T) {
	for _, a := range wides() {
		for _, n := range ints() {
			if n < 1 {
				continue
			}
			divisor := big.NewInt(int64(n))
			// For a positive divisor the Euclidean division of math/big rounds down.
			quotient, remainder := new(big.Int).DivMod(exact(a), divisor, new(big.Int))
			q, r, e := wide.Div(a, n)
			compare(t, "Div", q, e, quotient)
			if int64(r) != remainder.Int64() {
				t.Fatalf("Div of %v by %d: the remainder is %d, not %v", a, n, r, remainder)
			}
			back := new(big.Int).Mul(exact(q), divisor)
			if back.Add(back, big.NewInt(int64(r))).Cmp(exact(a)) != 0 {
				t.Fatalf("Div of %v by %d: %v and %d do not give it again", a, n, q, r)
			}
		}
	}
}

// P1.4
func TestDivRoundsDown(t *testing.T) {
	for _, x := range []struct {
		a    api.Wide
		n    int
		q    api.Wide
		rest int
	}{
		{wide.Of(-7), 2, wide.Of(-4), 1},
		{wide.Of(7), 2, wide.Of(3), 1},
		{wide.Of(-8), 2, wide.Of(-4), 0},
		{wide.Of(-1), math.MaxInt, wide.Of(-1), math.MaxInt - 1},
		{least, 1, least, 0},
		{greatest, 1, greatest, 0},
		{api.Wide{Hi: -1}, 3, api.Wide{Hi: -1, Lo: 0xaaaaaaaaaaaaaaaa}, 2},
	} {
		if q, rest, e := wide.Div(x.a, x.n); q != x.q || rest != x.rest || e != api.OK {
			t.Errorf("Div of %v by %d: %v, %d and error %d, not %v and %d", x.a, x.n, q, rest, e, x.q, x.rest)
		}
	}
}

// P1.4
func TestDivByNoDivisor(t *testing.T) {
	for _, n := range []int{0, -1, -2, math.MinInt} {
		for _, a := range []api.Wide{{}, wide.Of(1), wide.Of(-1), least, greatest} {
			if q, r, e := wide.Div(a, n); q != (api.Wide{}) || r != 0 || e != api.ErrArg {
				t.Errorf("Div of %v by %d: %v, %d and error %d", a, n, q, r, e)
			}
		}
	}
}

// P1.5
func TestCmp(t *testing.T) {
	for _, a := range wides() {
		for _, b := range wides() {
			if order, want := wide.Cmp(a, b), exact(a).Cmp(exact(b)); order != want {
				t.Fatalf("Cmp of %v and %v: %d, not %d", a, b, order, want)
			}
		}
	}
}

// P1.6
func TestInt(t *testing.T) {
	for _, a := range wides() {
		x := exact(a)
		n, is := wide.Int(a)
		if is != x.IsInt64() {
			t.Fatalf("Int of %v: %v", a, is)
		}
		if is && int64(n) != x.Int64() || !is && n != 0 {
			t.Fatalf("Int of %v: %d", a, n)
		}
	}
	for _, a := range []api.Wide{{Lo: 1 << 63}, {Hi: -1, Lo: 1<<63 - 1}, {Hi: 1}, {Hi: -1}, {Hi: 1, Lo: 5}, least, greatest} {
		if n, is := wide.Int(a); n != 0 || is {
			t.Errorf("Int of %v: %d and %v", a, n, is)
		}
	}
}

// P1.11
func TestAddThenSub(t *testing.T) {
	for _, a := range wides() {
		for _, b := range wides() {
			sum, e := wide.Add(a, b)
			if e != api.OK {
				continue
			}
			if back, e := wide.Sub(sum, b); back != a || e != api.OK {
				t.Fatalf("%v + %v - %v is %v with the error %d", a, b, b, back, e)
			}
		}
	}
}
