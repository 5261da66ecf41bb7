package tableau

import (
	"math"
	"slices"

	"steelyard/api"
	"steelyard/linear"
	"steelyard/nat"
	"steelyard/ratio"
)

// Right tells whether a tableau may be.
func Right(t api.Tableau) bool {
	if len(t.Basic) != len(t.Rows) || len(t.Lower) != len(t.Values) || len(t.Upper) != len(t.Values) {
		return false
	}
	isWrongNumber := func(x api.Delta) bool { return !isRightNumber(x) }
	isWrongEdge := func(e api.Edge) bool { return !isRightEdge(e) }
	return areRightRows(t) && !slices.ContainsFunc(t.Values, isWrongNumber) && !slices.ContainsFunc(t.Lower, isWrongEdge) &&
		!slices.ContainsFunc(t.Upper, isWrongEdge) && areSums(t)
}

// areRightRows tells whether each row may be, and is of an unknown that no other one is of.
func areRightRows(t api.Tableau) bool {
	isBasic := make([]bool, len(t.Values))
	for _, v := range t.Basic {
		if !isUnknown(t, v) || isBasic[v] {
			return false
		}
		isBasic[v] = true
	}
	isLost := func(m api.Mono) bool { return !isUnknown(t, m.Var) || isBasic[m.Var] }
	isWrongRow := func(p api.Poly) bool {
		return !linear.Right(p) || ratio.Sign(p.Const) != 0 || slices.ContainsFunc(p.Monos, isLost)
	}
	return !slices.ContainsFunc(t.Rows, isWrongRow)
}

// isRightNumber tells whether both parts of a number are in their one form.
func isRightNumber(x api.Delta) bool { return ratio.Right(x.A) && ratio.Right(x.B) }

// isRightEdge tells whether a bound may be: where there is none, nothing is told.
func isRightEdge(e api.Edge) bool {
	return isRightNumber(e.At) && (e.Lit != 0 || ratio.Sign(e.At.A) == 0 && ratio.Sign(e.At.B) == 0)
}

// areSums tells whether each basic unknown is what its row is; all else is right.
func areSums(t api.Tableau) bool {
	firsts, seconds := make([]api.Ratio, 0, len(t.Values)), make([]api.Ratio, 0, len(t.Values))
	for _, x := range t.Values {
		firsts, seconds = append(firsts, x.A), append(seconds, x.B)
	}
	for i, p := range t.Rows {
		if v := t.Basic[i]; !isValue(p, firsts, firsts[v]) || !isValue(p, seconds, seconds[v]) {
			return false
		}
	}
	return true
}

// isValue tells whether a sum of unknowns is a number, however great what is reckoned on the way is.
func isValue(p api.Poly, unknowns []api.Ratio, x api.Ratio) bool {
	value, code := linear.Value(nat.New(math.MaxInt32), p, unknowns)
	return code == api.OK && ratio.Cmp(value, x) == 0
}
