package sexp

import (
	"math"

	"steelyard/api"
)

// endless is how deep a list is that is within itself.
const endless = math.MaxInt

// place is where the kids of a list are kept. Who hands an expression in may keep those of several lists at one place, or a list within itself: so each place is gone through once, or it might not end.
type place struct {
	first *api.Sexp
	count int
}

// step is a list whose kids are gone through: how many of them were, and how deep the deepest one of these is.
type step struct {
	kids    []api.Sexp
	done    int
	deepest int
}

// walk is the way from an expression to one within it; it is kept here, as expressions may be deeper than calls. Of each place it knows how deep the deepest kid is: endless, while they are gone through.
type walk struct {
	path  []step
	known map[place]int
}

// survey tells how deep an expression is; false, if a token in it isn't such.
func survey(x api.Sexp, such func(token api.Token) bool) (int, bool) {
	w := &walk{known: map[place]int{}}
	w.enter([]api.Sexp{x})
	for {
		last := &w.path[len(w.path)-1]
		if last.done < len(last.kids) {
			kid := last.kids[last.done]
			if !kid.List && !such(kid.Tok) {
				return 0, false
			}
			w.visit(kid)
			continue
		}
		deepest := w.leave()
		if len(w.path) == 0 {
			return deepest, true
		}
		w.put(within(deepest))
	}
}

// visit puts how deep a kid is, or enters it, to tell that later.
func (w *walk) visit(kid api.Sexp) {
	switch {
	case !kid.List:
		w.put(0)
	case len(kid.Kids) == 0:
		w.put(1)
	default:
		if deepest, ok := w.known[placeOf(kid.Kids)]; ok {
			w.put(within(deepest))
			return
		}
		w.enter(kid.Kids)
	}
}

// enter begins to go through kids; there is one at least.
func (w *walk) enter(kids []api.Sexp) {
	w.known[placeOf(kids)] = endless
	w.path = append(w.path, step{kids: kids})
}

// leave ends going through kids, as all of them were, and gives how deep the deepest one is.
func (w *walk) leave() int {
	last := w.path[len(w.path)-1]
	w.path = w.path[:len(w.path)-1]
	w.known[placeOf(last.kids)] = last.deepest
	return last.deepest
}

// put puts how deep the next kid is.
func (w *walk) put(deep int) {
	last := &w.path[len(w.path)-1]
	last.deepest = max(last.deepest, deep)
	last.done++
}

// placeOf gives where kids are kept; there is one at least.
func placeOf(kids []api.Sexp) place { return place{&kids[0], len(kids)} }

// within gives how deep a list is by its deepest kid.
func within(deepest int) int {
	if deepest == endless {
		return endless
	}
	return deepest + 1
}
