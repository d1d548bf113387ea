package rounding

import (
	"cmp"
	"slices"

	"corebank/api"
	"corebank/wide"
)

// Split distributes an amount by weights, without loss.
func Split(amount int, weights []int) ([]int, api.Errno) {
	total := sum(weights)
	if !validAmount(amount) || total == 0 {
		return nil, api.ErrArg
	}
	left := max(amount, -amount)
	parts, remainders := shares(left, weights, total)
	for _, part := range parts {
		left -= part
	}
	// Fewer units are left than there are remainders other than 0, because each remainder is less than a unit.
	for _, i := range descending(remainders)[:left] {
		parts[i]++
	}
	if amount < 0 {
		for i := range parts {
			parts[i] = -parts[i]
		}
	}
	return parts, api.OK
}

// sum returns the sum of the weights, or 0 if they are not accepted.
func sum(weights []int) int {
	// Before the sum, which is an int for so few weights.
	if len(weights) > api.MaxList {
		return 0
	}
	total := 0
	for _, weight := range weights {
		if weight < 0 || weight > api.MaxAmount {
			return 0
		}
		total += weight
	}
	return total
}

// shares returns the shares of the weights, rounded down, and the remainders of these divisions.
func shares(amount int, weights []int, total int) (parts, remainders []int) {
	for _, weight := range weights {
		// There are no errors: the total is a divisor, and no share is greater than the amount.
		quotient, remainder, _ := wide.Div(wide.Mul(amount, weight), total)
		part, _ := wide.Int(quotient)
		parts, remainders = append(parts, part), append(remainders, remainder)
	}
	return parts, remainders
}

// descending returns the places of the numbers from the greatest number to the least one.
func descending(numbers []int) []int {
	places := make([]int, len(numbers))
	for i := range places {
		places[i] = i
	}
	// A stable sort keeps the least place first among equal numbers.
	slices.SortStableFunc(places, func(i, j int) int { return cmp.Compare(numbers[j], numbers[i]) })
	return places
}
