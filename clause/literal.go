package clause

import (
	"slices"

	"steelyard/api"
)

// truths tells how many truths there are. (Just in a search that isn't right one of its lists may be shorter than the others.)
func truths(s *api.Search) int {
	return min(len(s.Value), len(s.Level), len(s.Reason), len(s.Watch)/2)
}

// isLiteral tells whether a literal is one of so many truths.
func isLiteral(lit, truths int) bool { return lit != 0 && lit >= -truths && lit <= truths }

// areLiterals tells whether literals may be a clause of so many truths.
func areLiterals(lits []int, truths int) bool {
	isWrong := func(lit int) bool { return !isLiteral(lit, truths) }
	if len(lits) < 2 || slices.ContainsFunc(lits, isWrong) {
		return false
	}
	sorted := make([]int, len(lits))
	for i, lit := range lits {
		sorted[i] = truthOf(lit)
	}
	slices.Sort(sorted)
	return len(slices.Compact(sorted)) == len(lits)
}

// truthOf gives the truth of a literal.
func truthOf(lit int) int { return max(lit, -lit) - 1 }

// valueOf tells what a literal is.
func valueOf(values []int, lit int) int {
	switch {
	case !isLiteral(lit, len(values)):
		return 0
	case lit < 0:
		return -values[truthOf(lit)]
	}
	return values[truthOf(lit)]
}

// listOf gives the place of the list of those that watch a literal.
func listOf(lit int) int {
	if lit < 0 {
		return 2*truthOf(lit) + 1
	}
	return 2 * truthOf(lit)
}

// watch lets the clause at a place watch a literal.
func watch(s *api.Search, lit, at int) {
	if isLiteral(lit, truths(s)) {
		list := &s.Watch[listOf(lit)]
		*list = append(*list, at)
	}
}

// watching gives the places of the clauses that watch a literal.
func watching(s *api.Search, lit int) []int {
	if !isLiteral(lit, truths(s)) {
		return nil
	}
	return s.Watch[listOf(lit)]
}

// unwatch lets no clause watch a literal, and gives the places of those that did.
func unwatch(s *api.Search, lit int) []int {
	list := watching(s, lit)
	if len(list) > 0 {
		s.Watch[listOf(lit)] = list[:0]
	}
	return list
}

// watchedOf gives the literals that the clause at a place watches. (Just in a search that isn't right there may be none.)
func watchedOf(s *api.Search, at int) []int {
	if at < 0 || at >= len(s.Clauses) || len(s.Clauses[at].Lits) < 2 {
		return nil
	}
	return s.Clauses[at].Lits[:2]
}
