package typing_test

import (
	"math"
	"slices"
	"strings"
	"testing"

	"corebank/api"
	"corebank/typing"
)

// table lists the operators, with their operands and their result.
const table = `
+ number number number
+ amount amount amount
+ rate rate rate
+ day number day
- number number number
- amount amount amount
- rate rate rate
- day number day
- day day number
* number number number
* number amount amount
* amount number amount
* number rate rate
* rate number rate
* amount rate amount
* rate amount amount
/ number number number
/ amount number amount
/ rate number rate
/ amount amount number
neg number number
neg amount amount
neg rate rate
== number number bool
== amount amount bool
== rate rate bool
== day day bool
== bool bool bool
!= number number bool
!= amount amount bool
!= rate rate bool
!= day day bool
!= bool bool bool
< number number bool
< amount amount bool
< rate rate bool
< day day bool
<= number number bool
<= amount amount bool
<= rate rate bool
<= day day bool
and bool bool bool
or bool bool bool
not bool bool
min number number number
min amount amount amount
min rate rate rate
min day day day
max number number number
max amount amount amount
max rate rate rate
max day day day
if bool number number number
if bool amount amount amount
if bool rate rate rate
if bool day day day
if bool bool bool bool
`

// entry is a line of the table.
type entry struct {
	row
	result int
}

// entries returns the lines of the table.
func entries() []entry {
	signs := map[string]int{
		"+": api.OpAdd, "-": api.OpSub, "*": api.OpMul, "/": api.OpDiv, "neg": api.OpNeg, "==": api.OpEq, "!=": api.OpNe, "<": api.OpLt, "<=": api.OpLe,
		"and": api.OpAnd, "or": api.OpOr, "not": api.OpNot, "min": api.OpMin, "max": api.OpMax, "if": api.OpIf,
	}
	var l []entry
	for line := range strings.Lines(strings.TrimSpace(table)) {
		words := strings.Fields(line)
		one := entry{row{op: signs[words[0]]}, types[words[len(words)-1]]}
		for _, word := range words[1 : len(words)-1] {
			one.operands = append(one.operands, types[word])
		}
		l = append(l, one)
	}
	return l
}

// takesNot requires that Result says false.
func takesNot(t *testing.T, op int, operands []int) {
	t.Helper()
	if found, ok := typing.Result(op, operands); found != 0 || ok {
		t.Errorf("Result(%d, %s) is %d, %t; want false", op, brief(operands), found, ok)
	}
}

// P11.1
func TestResult(t *testing.T) {
	if len(entries()) != 57 {
		t.Fatalf("the table has %d lines", len(entries()))
	}
	for _, one := range entries() {
		if found, ok := typing.Result(one.op, one.operands); found != one.result || !ok {
			t.Errorf("Result(%d, %v) is %d, %t; want %d", one.op, one.operands, found, ok, one.result)
		}
	}
}

// P11.1: each operator, and each number beside, with each combination of types, and of numbers beside, up to four.
func TestResultCombinations(t *testing.T) {
	taken := 0
	for op := -3; op <= 24; op++ {
		for length := range 5 {
			for _, operands := range lists([]int{-1, 0, 1, 2, 3, 4, 5, 6}, length) {
				checkResult(t, op, operands)
				if _, ok := typing.Result(op, operands); ok {
					taken++
				}
			}
		}
	}
	if taken != len(entries()) {
		t.Errorf("%d combinations are taken; want %d", taken, len(entries()))
	}
}

// P11.1: examples 1 and 2.
func TestResultExamples(t *testing.T) {
	for _, c := range []struct {
		op       int
		operands []int
		want     int
	}{
		{api.OpMul, []int{api.TyAmount, api.TyRate}, api.TyAmount}, {api.OpMul, []int{api.TyAmount, api.TyAmount}, 0}, {api.OpSub, []int{api.TyDay, api.TyDay}, api.TyNumber}, {api.OpAdd, []int{api.TyDay, api.TyDay}, 0},
	} {
		if found, ok := typing.Result(c.op, c.operands); found != c.want || ok != (c.want != 0) {
			t.Errorf("Result(%d, %v) is %d, %t; want %d", c.op, c.operands, found, ok, c.want)
		}
	}
}

// P11.1: operators without operands, and numbers that are no operators.
func TestResultOperators(t *testing.T) {
	others := []int{api.OpNum, api.OpCash, api.OpRate, api.OpVar, api.OpAdd - 1, api.OpIf + 1, 0, -1, -api.OpAdd, -api.OpIf, 21, 127, 128, 255, 256, 256 + api.OpAdd, 1<<16 + api.OpAdd, 1<<32 + api.OpAdd, 1<<32 + api.OpIf, -1<<32 + api.OpAdd, math.MaxInt, math.MinInt, math.MinInt + api.OpAdd}
	for _, op := range others {
		for length := range 5 {
			for _, operands := range lists(kinds, length) {
				takesNot(t, op, operands)
			}
		}
		for _, one := range entries() {
			takesNot(t, op, one.operands)
		}
	}
}

// P11.1: numbers that are not types, at each place.
func TestResultTypes(t *testing.T) {
	others := []int{0, -1, -2, -3, -4, -5, 6, 7, 100, 255, 256, 257, 258, 1<<8 + 5, 1<<16 + 1, 1<<32 + 1, 1<<32 + 5, -1<<32 + 1, math.MaxInt, math.MinInt, math.MinInt + 1}
	for _, one := range entries() {
		for i := range one.operands {
			for _, other := range others {
				operands := slices.Clone(one.operands)
				operands[i] = other
				takesNot(t, one.op, operands)
			}
		}
	}
	for _, op := range composed {
		for _, other := range others {
			for length := 1; length <= 4; length++ {
				takesNot(t, op, slices.Repeat([]int{other}, length))
			}
		}
	}
}

// P11.1: no operands, too few and too many.
func TestResultCounts(t *testing.T) {
	for op := -1; op <= 21; op++ {
		takesNot(t, op, nil)
		takesNot(t, op, []int{})
	}
	for _, one := range entries() {
		for i := range one.operands {
			takesNot(t, one.op, slices.Delete(slices.Clone(one.operands), i, i+1))
		}
		for i := range len(one.operands) + 1 {
			for _, more := range []int{0, 1, 2, 3, 4, 5, 6, -1} {
				takesNot(t, one.op, slices.Insert(slices.Clone(one.operands), i, more))
				takesNot(t, one.op, slices.Insert(slices.Clone(one.operands), i, more, more))
			}
		}
		takesNot(t, one.op, append(slices.Clone(one.operands), one.operands...))
		takesNot(t, one.op, append(slices.Clone(one.operands), make([]int, 1<<16)...))
		takesNot(t, one.op, slices.Repeat(one.operands, 1<<10))
	}
}

// P0.4
func TestResultChangesNothing(t *testing.T) {
	for _, one := range entries() {
		for _, operands := range [][]int{one.operands, one.operands[1:], append(slices.Clone(one.operands), 5)} {
			before, room := slices.Clone(operands), append(slices.Clone(operands), 7, 8, 9)
			typing.Result(one.op, room[:len(operands)])
			if !slices.Equal(room, append(before, 7, 8, 9)) {
				t.Errorf("Result(%d, %v) leaves %v", one.op, operands, room)
			}
		}
	}
}
