package typing

import "corebank/api"

// operands are the types of the operands of an operator, with 0 behind them up to three.
type operands [3]int

// Result returns the type of an operator's result.
func Result(op int, types []int) (int, bool) {
	var taken operands
	if len(types) > len(taken) {
		return 0, false
	}
	for i, one := range types {
		// A 0 among the types would pass for an operand that is not there.
		if !exists(one) {
			return 0, false
		}
		taken[i] = one
	}
	result, ok := results(op)[taken]
	return result, ok
}

// exists reports whether a number is a type.
func exists(number int) bool { return number >= api.TyNumber && number <= api.TyBool }

// results returns the types of the result of an operator for all operands that it takes. A number that is no operator with operands takes none.
func results(op int) map[operands]int {
	const number, amount, rate, day, truth = api.TyNumber, api.TyAmount, api.TyRate, api.TyDay, api.TyBool
	switch op {
	case api.OpAdd:
		return map[operands]int{
			{number, number}: number, {amount, amount}: amount, {rate, rate}: rate,
			{day, number}: day,
		}
	case api.OpSub:
		return map[operands]int{
			{number, number}: number, {amount, amount}: amount, {rate, rate}: rate,
			{day, number}: day, {day, day}: number,
		}
	case api.OpMul:
		return map[operands]int{
			{number, number}: number,
			{number, amount}: amount, {amount, number}: amount,
			{number, rate}: rate, {rate, number}: rate,
			{amount, rate}: amount, {rate, amount}: amount,
		}
	case api.OpDiv:
		return map[operands]int{
			{number, number}: number, {amount, number}: amount, {rate, number}: rate,
			{amount, amount}: number,
		}
	case api.OpNeg:
		return map[operands]int{{number}: number, {amount}: amount, {rate}: rate}
	case api.OpEq, api.OpNe:
		return map[operands]int{{number, number}: truth, {amount, amount}: truth, {rate, rate}: truth, {day, day}: truth, {truth, truth}: truth}
	case api.OpLt, api.OpLe:
		return map[operands]int{{number, number}: truth, {amount, amount}: truth, {rate, rate}: truth, {day, day}: truth}
	case api.OpAnd, api.OpOr:
		return map[operands]int{{truth, truth}: truth}
	case api.OpNot:
		return map[operands]int{{truth}: truth}
	case api.OpMin, api.OpMax:
		return map[operands]int{{number, number}: number, {amount, amount}: amount, {rate, rate}: rate, {day, day}: day}
	case api.OpIf:
		return map[operands]int{
			{truth, number, number}: number, {truth, amount, amount}: amount, {truth, rate, rate}: rate,
			{truth, day, day}: day, {truth, truth, truth}: truth,
		}
	}
	return nil
}
