package cnf

import (
	"slices"

	"steelyard/api"
	"steelyard/linear"
	"steelyard/ratio"
)

// Right tells whether a problem may be.
func Right(p api.Problem) bool {
	if p.Bools < 0 || p.Reals < 0 {
		return false
	}
	isWrongRow := func(q api.Poly) bool { return !isRightRow(q, p.Reals) }
	isWrongAtom := func(a api.Atom) bool { return !isRightAtom(a, p) }
	isWrongClause := func(lits []int) bool { return !areLiterals(lits, p.Bools) }
	return !slices.ContainsFunc(p.Rows, isWrongRow) && !slices.ContainsFunc(p.Atoms, isWrongAtom) && !sharesTruths(p.Atoms) &&
		!slices.ContainsFunc(p.Clauses, isWrongClause)
}

// isRightRow tells whether a row may be, of so many numbers.
func isRightRow(q api.Poly, reals int) bool {
	last := len(q.Monos) - 1
	// The unknowns of a sum that is right rise: the last one is the greatest.
	return last >= 1 && linear.Right(q) && ratio.Sign(q.Const) == 0 && q.Monos[last].Var < reals
}

// isRightAtom tells whether an atom of a problem may be.
func isRightAtom(a api.Atom, p api.Problem) bool {
	if a.Bool < 0 || a.Bool >= p.Bools || !isRightBound(a.Bound) {
		return false
	}
	if a.Row == -1 {
		return a.Var >= 0 && a.Var < p.Reals
	}
	return a.Row >= 0 && a.Row < len(p.Rows) && a.Var == 0
}

// isRightBound tells whether an atom's bound may be.
func isRightBound(x api.Delta) bool {
	return ratio.Right(x.A) && ratio.Right(x.B) && (ratio.Sign(x.B) == 0 || ratio.Cmp(x.B, ratio.Of(-1)) == 0)
}

// sharesTruths tells whether two atoms are one truth.
func sharesTruths(atoms []api.Atom) bool {
	truths := make([]int, 0, len(atoms))
	for _, a := range atoms {
		truths = append(truths, a.Bool)
	}
	slices.Sort(truths)
	return len(slices.Compact(truths)) < len(atoms)
}

// areLiterals tells whether all are literals of so many truths.
func areLiterals(lits []int, bools int) bool {
	for _, l := range lits {
		// The least number has no opposite.
		if l == 0 || l > bools || l < -bools {
			return false
		}
	}
	return true
}
