package clause_test

import (
	"fmt"
	"math/rand/v2"
	"slices"
	"testing"

	"steelyard/api"
	"steelyard/clause"
)

// anyLits gives literals of so many truths, now and then one that there isn't.
func anyLits(r *rand.Rand, bools int) []int {
	var lits []int
	for _, v := range r.Perm(bools)[:min(bools, 2+r.IntN(3))] {
		lits = append(lits, sign(r)*(v+1))
	}
	if r.IntN(20) == 0 {
		lits = append(lits, r.IntN(2*bools+3)-bools-1)
	}
	return lits
}

func sign(r *rand.Rand) int { return 2*r.IntN(2) - 1 }

// anyLit gives a literal of so many truths, seldom one that there isn't.
func anyLit(r *rand.Rand, bools int) int {
	if r.IntN(30) == 0 {
		return pick(r, oddInts())
	}
	return sign(r) * (1 + r.IntN(max(bools, 1)))
}

// caller calls the same of a search and of its model.
type caller struct {
	t *testing.T
	r *rand.Rand
	s *api.Search
	m *model
}

// add adds a clause, such that all of Run is promised: none of its first two literals is told false, or the first one is told true then.
func (c caller) add() {
	c.t.Helper()
	lits := anyLits(c.r, c.m.truths)
	slices.SortStableFunc(lits, func(a, b int) int { return c.m.value(b) - c.m.value(a) })
	if len(lits) > 1 && c.m.value(lits[1]) < 0 && c.m.value(lits[0]) < 0 {
		return
	}
	learned := c.r.IntN(2) == 0
	kept := slices.Clone(lits)
	at, code := clause.Add(c.s, lits, learned)
	want, e := c.m.add(lits, learned)
	if at != want || code != e || !slices.Equal(lits, kept) {
		c.t.Fatalf("Add(%v): %d, %v, not %d, %v", lits, at, code, want, e)
	}
	if code != api.OK || c.m.value(lits[1]) >= 0 || c.m.value(lits[0]) > 0 {
		return
	}
	if c.r.IntN(3) == 0 {
		clause.Decide(c.s, lits[0])
		c.m.decide(lits[0])
		return
	}
	clause.Tell(c.s, lits[0], at)
	c.m.tell(lits[0], at)
}

// call makes one call by chance.
func (c caller) call() {
	c.t.Helper()
	lit := anyLit(c.r, c.m.truths)
	switch c.r.IntN(10) {
	case 0:
		c.add()
	case 1:
		if got, want := clause.Tell(c.s, lit, -1), c.m.tell(lit, -1); got != want {
			c.t.Fatalf("Tell(%d): %v", lit, got)
		}
	case 2, 3:
		if got, want := clause.Decide(c.s, lit), c.m.decide(lit); got != want {
			c.t.Fatalf("Decide(%d): %v", lit, got)
		}
	case 4, 5:
		level := c.r.IntN(len(c.m.heads)+3) - 1
		if got, want := clause.Back(c.s, level), c.m.back(level); !slices.Equal(got, want) {
			c.t.Fatalf("Back(%d): %v, not %v", level, got, want)
		}
	case 6:
		most := c.r.IntN(12) - 1
		clause.Reduce(c.s, most)
		c.m.reduce(most)
	case 7:
		if got, want := clause.Value(*c.s, lit), c.m.value(lit); got != want {
			c.t.Fatalf("Value(%d): %v, not %v", lit, got, want)
		}
	default:
		c.m.run(c.t, fmt.Sprintf("Run of %v", c.m), *c.s, clause.Run(c.s))
	}
}

// anySearch gives a right search of so many truths.
func anySearch(r *rand.Rand, bools int) api.Search {
	s := clause.New(bools)
	for range r.IntN(3 * bools) {
		clause.Add(&s, anyLits(r, bools), r.IntN(2) == 0)
	}
	for range r.IntN(2 * bools) {
		if clause.Decide(&s, anyLit(r, bools)); clause.Run(&s) >= 0 {
			clause.Back(&s, r.IntN(len(s.Heads)+1))
		}
		if r.IntN(4) == 0 {
			clause.Tell(&s, anyLit(r, bools), -1)
		}
	}
	return s
}

// P18.1 to P18.4: calls one behind the other, in whichever order.
func TestByChance(t *testing.T) {
	for seed := range uint64(4000) {
		r := rand.New(rand.NewPCG(18, seed))
		s := clause.New(1 + r.IntN(9))
		c := caller{t, r, &s, newModel(s)}
		for range r.IntN(2 * len(s.Value)) {
			c.add()
		}
		for range 60 {
			c.call()
			is(t, fmt.Sprintf("seed %d", seed), s, c.m)
		}
	}
}

// P18.3: a search as it goes, all asked ahead of each Decide; a clause that is false makes it go back, and what was decided last is told otherwise by a lesson of all that was decided.
func TestP183Search(t *testing.T) {
	trues, falses := 0, 0
	for seed := range uint64(3000) {
		r := rand.New(rand.NewPCG(183, seed))
		bools := 3 + r.IntN(5)
		s := clause.New(bools)
		for range 4*bools + r.IntN(3) {
			lits := anyLits(r, bools)
			clause.Add(&s, lits[:min(3, len(lits))], false)
		}
		given := copyOf(s).Clauses
		if search(t, r, &s) {
			trues++
			for _, c := range given {
				if !slices.ContainsFunc(c.Lits, func(lit int) bool { return clause.Value(s, lit) == 1 }) {
					t.Fatalf("seed %d: %v isn't true in %v", seed, c, s.Value)
				}
			}
			continue
		}
		falses++
		if isTrueSomehow(given, bools) {
			t.Fatalf("seed %d: %v may be true", seed, given)
		}
	}
	if trues < 300 || falses < 300 {
		t.Error(trues, falses)
	}
}

// search tells whether all clauses can be true.
func search(t *testing.T, r *rand.Rand, s *api.Search) bool {
	t.Helper()
	for {
		m := newModel(*s)
		at := clause.Run(s)
		m.run(t, "Run", *s, at)
		is(t, "Run", *s, m)
		switch {
		case at >= 0 && len(s.Heads) == 0:
			return false
		case at >= 0:
			var lesson []int
			for _, head := range slices.Backward(s.Heads) {
				lesson = append(lesson, -s.Trail[head])
			}
			clause.Back(s, len(s.Heads)-1)
			if place, code := clause.Add(s, lesson, true); code == api.OK {
				clause.Tell(s, lesson[0], place)
			} else {
				clause.Tell(s, lesson[0], -1)
			}
			continue
		case len(s.Trail) == len(s.Value):
			return true
		}
		if r.IntN(5) == 0 {
			clause.Back(s, 0)
			clause.Reduce(s, r.IntN(9))
			if clause.Run(s) >= 0 {
				return false
			}
		}
		for !clause.Decide(s, anyLit(r, len(s.Value))) && len(s.Trail) < len(s.Value) {
		}
	}
}

// isTrueSomehow tells whether truths make all clauses true.
func isTrueSomehow(clauses []api.Clause, bools int) bool {
	for bits := range 1 << bools {
		isTrue := func(lit int) bool { return (bits>>(max(lit, -lit)-1)&1 == 1) == (lit > 0) }
		isFalse := func(c api.Clause) bool { return !slices.ContainsFunc(c.Lits, isTrue) }
		if !slices.ContainsFunc(clauses, isFalse) {
			return true
		}
	}
	return false
}
