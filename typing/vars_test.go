package typing_test

import (
	"fmt"
	"math"
	"slices"
	"strings"
	"testing"

	"corebank/api"
	"corebank/typing"
)

// gives requires a result of Vars.
func gives(t *testing.T, l []api.Var, want api.Errno) {
	t.Helper()
	if problem := typing.Vars(l); problem != want {
		t.Errorf("Vars(%s) is %d; want %d", brief(l), problem, want)
	}
}

// numbered returns a number of variables with different names.
func numbered(count int) []api.Var {
	var l []api.Var
	for i := range count {
		l = append(l, api.Var{Name: fmt.Sprint("v", i), Type: 1 + i%5})
	}
	return l
}

// P11.4
func TestVars(t *testing.T) {
	gives(t, nil, api.OK)
	gives(t, []api.Var{}, api.OK)
	gives(t, common(), api.OK)
	for _, kind := range kinds {
		gives(t, []api.Var{{Name: "x", Type: kind}}, api.OK)
		gives(t, []api.Var{{Name: "x", Type: kind}, {Name: "y", Type: kind}, {Name: "xy", Type: kind}}, api.OK)
	}
	for _, other := range []int{0, -1, -5, 6, 7, 256 + 1, 1<<32 + 5, math.MaxInt, math.MinInt, math.MinInt + 1} {
		gives(t, []api.Var{{Name: "x", Type: other}}, api.ErrType)
		gives(t, append(common(), api.Var{Name: "x", Type: other}), api.ErrType)
	}
}

// P11.4: the names of variables.
func TestVarsNames(t *testing.T) {
	good := []string{"a", "z", "a0", "a_", "x1", "orx", "iff", "min_", "minmax", "product1", "months", "abcdefghijklmnop", "z_______________", "a000000000000009", "balance", "lowest", "volume", "amount", "count", "age", "day", "true", "number"}
	bad := []string{"", " ", "_", "_a", "1", "1a", "A", "aB", "Min", "a b", "a ", " a", "a\n", "\na", "\ta", "a#", "#", "a\x00", "a\r", "a.b", "a%", "a-b", "+", "(", "é", "aé", "\xff", "a\xff", "abcdefghijklmnopq", "a0000000000000000", strings.Repeat("a", 64), strings.Repeat("a", 2048), strings.Repeat("a", 2049), strings.Repeat("a ", 5000), "1.5%", "ａ"}
	for _, s := range good {
		gives(t, []api.Var{{Name: s, Type: api.TyDay}}, api.OK)
		gives(t, []api.Var{{Name: "x", Type: api.TyDay}, {Name: s, Type: api.TyBool}}, api.OK)
	}
	for _, s := range slices.Concat(bad, words) {
		gives(t, []api.Var{{Name: s, Type: api.TyDay}}, api.ErrName)
		gives(t, append(common(), api.Var{Name: s, Type: api.TyBool}), api.ErrName)
	}
	for b := range 256 {
		c := string([]byte{byte(b)})
		for _, s := range []string{c, "a" + c, c + "a", "a" + c + "b", "abcdefghijklmno" + c, "abcdefghijklmnop" + c} {
			checkVars(t, []api.Var{{Name: s, Type: api.TyRate}})
		}
	}
}

// P11.4: variables with the same name.
func TestVarsDuplicates(t *testing.T) {
	for count := 2; count <= api.MaxList; count++ {
		for _, earlier := range []int{0, (count - 1) / 2, count - 2} {
			l := numbered(count)
			l[count-1].Name = l[earlier].Name
			gives(t, l, api.ErrDuplicate)
			l[count-1].Type = l[earlier].Type
			gives(t, l, api.ErrDuplicate)
		}
		// The last name is the first part of another one, or goes on.
		l := numbered(count)
		l[count-1].Name = "v"
		gives(t, l, api.OK)
		l[count-1].Name = "v00"
		gives(t, l, api.OK)
	}
}

// P11.4: MaxList variables and one more.
func TestVarsLimit(t *testing.T) {
	gives(t, numbered(63), api.OK)
	gives(t, numbered(64), api.OK)
	for _, count := range []int{65, 66, 1000, 1 << 16} {
		gives(t, numbered(count), api.ErrLimit)
		gives(t, make([]api.Var, count), api.ErrLimit)
	}
	for _, at := range []int{0, 1, 31, 62, 63} {
		for _, c := range []struct {
			v    api.Var
			want api.Errno
		}{
			{api.Var{Name: "if", Type: 1}, api.ErrName}, {api.Var{Type: 1}, api.ErrName}, {api.Var{Name: "x"}, api.ErrType}, {api.Var{Name: "x", Type: 6}, api.ErrType}, {api.Var{}, api.ErrName},
		} {
			l := numbered(65)
			l[at] = c.v
			gives(t, l, api.ErrLimit)
			gives(t, l[:64], c.want)
		}
		l := numbered(65)
		l[at].Name = "v64"
		gives(t, l, api.ErrLimit)
		l[(at+1)%64].Name = "v64"
		gives(t, l, api.ErrLimit)
		gives(t, l[:64], api.ErrDuplicate)
	}
}

// P11.4: the first variable that has an error, and its first error.
func TestVarsOrder(t *testing.T) {
	x, y := api.Var{Name: "x", Type: 1}, api.Var{Name: "y", Type: 2}
	misnamed, untyped, both := api.Var{Name: "if", Type: 1}, api.Var{Name: "z"}, api.Var{Name: "if", Type: 6}
	twice := api.Var{Name: "x", Type: 7}
	for _, c := range []struct {
		l    []api.Var
		want api.Errno
	}{
		{[]api.Var{both}, api.ErrName}, {[]api.Var{both, both}, api.ErrName}, {[]api.Var{x, both}, api.ErrName}, {[]api.Var{x, twice}, api.ErrDuplicate}, {[]api.Var{x, y, twice}, api.ErrDuplicate}, {[]api.Var{misnamed, misnamed}, api.ErrName},
		{[]api.Var{untyped, misnamed}, api.ErrType}, {[]api.Var{misnamed, untyped}, api.ErrName}, {[]api.Var{untyped, untyped}, api.ErrType}, {[]api.Var{x, untyped, x}, api.ErrType}, {[]api.Var{x, x, untyped}, api.ErrDuplicate}, {[]api.Var{x, x, misnamed}, api.ErrDuplicate}, {[]api.Var{x, misnamed, x}, api.ErrName}, {[]api.Var{misnamed, x, x}, api.ErrName}, {[]api.Var{x, y, untyped, twice, both}, api.ErrType}, {[]api.Var{twice, x}, api.ErrType},
	} {
		gives(t, c.l, c.want)
		checkVars(t, c.l)
	}
}

// P11.4: up to four variables with any of these names and types, and long lists.
func TestVarsCombinations(t *testing.T) {
	var all []api.Var
	for _, s := range []string{"x", "y", "if", ""} {
		for _, kind := range []int{0, 1, 5, 6} {
			all = append(all, api.Var{Name: s, Type: kind})
		}
	}
	for _, a := range all {
		checkVars(t, []api.Var{a})
		for _, b := range all {
			checkVars(t, []api.Var{a, b})
			for _, c := range all {
				checkVars(t, []api.Var{a, b, c})
				checkVars(t, []api.Var{{Name: "z", Type: 3}, a, b, c})
			}
		}
	}
	random := seeded()
	counts := map[api.Errno]int{}
	for range 20000 {
		l := numbered(60 + random.IntN(6))
		for range random.IntN(4) {
			v := &l[random.IntN(len(l))]
			switch random.IntN(3) {
			case 0:
				v.Type = random.IntN(9) - 2
			case 1:
				v.Name = l[random.IntN(len(l))].Name
			default:
				v.Name = words[random.IntN(len(words))] + []string{"", "x", "X"}[random.IntN(3)]
			}
		}
		checkVars(t, l)
		counts[typing.Vars(l)]++
	}
	for _, problem := range []api.Errno{api.OK, api.ErrLimit, api.ErrName, api.ErrDuplicate, api.ErrType} {
		if counts[problem] < 500 {
			t.Errorf("the errors are %v", counts)
		}
	}
}
