package eval

import (
	"cmp"

	"steelyard/api"
	"steelyard/ratio"
)

// order tells whether two values that stand side by side do so as an operator asks.
type order func(x, y api.Value) bool

// orders gives the orders of the operators that have one.
func orders() map[int]order {
	less := func(x, y api.Value) bool { return compare(x, y) < 0 }
	return map[int]order{
		api.OpEqual:   func(x, y api.Value) bool { return compare(x, y) == 0 },
		api.OpLess:    less,
		api.OpAtMost:  func(x, y api.Value) bool { return !less(y, x) },
		api.OpGreater: func(x, y api.Value) bool { return less(y, x) },
		api.OpAtLeast: func(x, y api.Value) bool { return !less(x, y) },
	}
}

// compare gives -1, 0 or 1 of two values of one sort; what is false is ahead of what is true.
func compare(x, y api.Value) int {
	if x.Truth != y.Truth {
		return cmp.Compare(rank(x.Truth), rank(y.Truth))
	}
	return ratio.Cmp(x.Number, y.Number)
}

// rank gives 1 of what is true, else 0.
func rank(truth bool) int {
	if truth {
		return 1
	}
	return 0
}
