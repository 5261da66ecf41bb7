package clause

import "steelyard/api"

// What comes of a clause, when one of the literals that it watches is told false.
const (
	stays   = iota // the other one is told true
	leaves         // it watches another literal now, that isn't told false
	tells          // the other one is told true by it
	clashes        // all of its literals are told false
)

// Run asks clauses what follows; the place of one that is false, -1: none is.
func Run(s *api.Search) int {
	clash := -1
	s.Next = max(s.Next, 0)
run:
	// The trail of a right search is never longer than there are truths; that of another one might grow without an end.
	for ; s.Next < min(len(s.Trail), len(s.Value)); s.Next++ {
		lit := -s.Trail[s.Next]
		list := unwatch(s, lit)
		for i, at := range list {
			switch ask(s, at, lit) {
			case clashes:
				clash = at
				// The literal is asked no further, and will be asked again: all that weren't asked watch it still.
				for _, other := range list[i:] {
					watch(s, lit, other)
				}
				break run
			case stays, tells:
				watch(s, lit, at)
			}
		}
	}
	if clash >= 0 {
		s.Clauses[clash].Use++
	}
	return clash
}

// ask asks the clause at a place that watches a literal, which is told false.
func ask(s *api.Search, at, lit int) int {
	watched := watchedOf(s, at)
	if len(watched) == 0 {
		return stays
	}
	if watched[0] == lit {
		watched[0], watched[1] = watched[1], watched[0]
	}
	if valueOf(s.Value, watched[0]) > 0 {
		return stays
	}
	rest := s.Clauses[at].Lits[2:]
	for i, other := range rest {
		if valueOf(s.Value, other) >= 0 {
			watched[1], rest[i] = other, watched[1]
			watch(s, other, at)
			return leaves
		}
	}
	if Tell(s, watched[0], at) {
		return tells
	}
	return clashes
}
