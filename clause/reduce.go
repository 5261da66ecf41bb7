package clause

import (
	"cmp"
	"slices"

	"steelyard/api"
)

// Reduce takes out learned clauses that were of least use.
func Reduce(s *api.Search, most int) {
	if len(s.Heads) > 0 {
		return
	}
	for v := range s.Reason {
		s.Reason[v] = -1
	}
	if going := leastUsed(s.Clauses, most); len(going) > 0 {
		takeOut(s, going)
	}
}

// leastUsed gives the places of the learned clauses that go, if no more than so many may be.
func leastUsed(clauses []api.Clause, most int) map[int]struct{} {
	going := map[int]struct{}{}
	var learned []int
	for at, c := range clauses {
		if c.Learned {
			learned = append(learned, at)
		}
	}
	if len(learned) <= most {
		return going
	}
	slices.SortStableFunc(learned, func(a, b int) int { return cmp.Compare(clauses[a].Use, clauses[b].Use) })
	for _, at := range learned[:len(learned)-max(most, 0)/2] {
		going[at] = struct{}{}
	}
	return going
}

// takeOut takes clauses out, and lets the others be watched at their new places.
func takeOut(s *api.Search, going map[int]struct{}) {
	places := make([]int, len(s.Clauses))
	staying := s.Clauses[:0]
	for at, c := range s.Clauses {
		if _, goes := going[at]; goes {
			places[at] = -1
			continue
		}
		places[at] = len(staying)
		staying = append(staying, c)
	}
	clear(s.Clauses[len(staying):])
	s.Clauses = staying
	for i, list := range s.Watch {
		s.Watch[i] = list[:0]
		for _, at := range list {
			if at >= 0 && at < len(places) && places[at] >= 0 {
				s.Watch[i] = append(s.Watch[i], places[at])
			}
		}
	}
}
