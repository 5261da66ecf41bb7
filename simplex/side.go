package simplex

import (
	"slices"

	"steelyard/api"
	"steelyard/delta"
)

// side is the bounds of all unknowns on one side: the lower ones, if its sign is -1, the upper ones, if it is 1.
type side struct {
	edges []api.Edge
	sign  int
}

// sides gives the lower bounds, and the upper ones, in the tableau's memory.
func sides(t api.Tableau) [2]side { return [2]side{{t.Lower, -1}, {t.Upper, 1}} }

// past tells whether a number is beyond an unknown's bound (1), at it (0), or has room to it (-1), as where there is none.
func (s side) past(v int, x api.Delta) int {
	e := s.edges[v]
	if e.Lit == 0 {
		return -1
	}
	return s.sign * delta.Cmp(x, e.At)
}

// isUnknown tells whether there is such an unknown, and its bounds; there are as many of all, if the tableau is right.
func isUnknown(t api.Tableau, v int) bool {
	return v >= 0 && v < min(len(t.Values), len(t.Lower), len(t.Upper))
}

// own gives a number in memory of its own.
func own(x api.Delta) api.Delta { return api.Delta{A: ownRatio(x.A), B: ownRatio(x.B)} }

// ownRatio gives a ratio in memory of its own.
func ownRatio(x api.Ratio) api.Ratio {
	x.Num.Mag, x.Den = slices.Clone(x.Num.Mag), slices.Clone(x.Den)
	return x
}
