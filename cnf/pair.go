package cnf

import "steelyard/api"

// pairs gives the literals of the two of a list that must be one, or mustn't.
func pairs[T any](op int, list []T, same, differ func(first, second T) int) []int {
	if op == api.OpEqual {
		return beside(list, same)
	}
	return among(list, differ)
}

// beside gives the literals of each two that stand side by side.
func beside[T any](list []T, literal func(first, second T) int) []int {
	var lits []int
	for i, second := range list[1:] {
		lits = append(lits, literal(list[i], second))
	}
	return lits
}

// among gives the literals of each two: the first one with each one behind it first, and so on.
func among[T any](list []T, literal func(first, second T) int) []int {
	var lits []int
	for i, first := range list {
		for _, second := range list[i+1:] {
			lits = append(lits, literal(first, second))
		}
	}
	return lits
}
