package clause_test

import (
	"math"
	"math/rand/v2"
	"slices"
	"testing"

	"steelyard/api"
	"steelyard/clause"
)

// some gives a right search with two levels, each with what clauses told.
func some(t *testing.T) api.Search {
	t.Helper()
	s := with(t, 6, 2, []int{-1, 2}, []int{1, 4, 5, 6}, []int{-2, -3, 4})
	clause.Tell(&s, -6, -1)
	clause.Decide(&s, 1)
	clause.Run(&s)
	clause.Decide(&s, 3)
	if at := clause.Run(&s); at != -1 || !clause.Right(s) {
		t.Fatalf("%d, %v", at, s)
	}
	says(t, "some", []any{s.Trail, s.Heads, s.Level, s.Reason, s.Next}, "[[-6 1 2 3 4] [1 3] [1 1 2 2 0 0] [-1 0 -1 2 -1 -1] 5]")
	return s
}

func TestP184RightIs(t *testing.T) {
	for i, change := range []func(s *api.Search){
		func(s *api.Search) {}, func(s *api.Search) { s.Next = 0 }, func(s *api.Search) { s.Next = 3 }, func(s *api.Search) { s.Clauses[0].Use = math.MaxInt }, func(s *api.Search) { s.Clauses[0].Learned = true },
		func(s *api.Search) { slices.Reverse(s.Clauses[1].Lits[2:]) }, func(s *api.Search) { s.Reason[1] = -1 }, func(s *api.Search) { s.Reason[3] = -1 },
		// a level of a literal that a clause told at the level below
		func(s *api.Search) { s.Reason[1], s.Heads, s.Level = -1, []int{1, 2, 3}, []int{1, 2, 3, 3, 0, 0} },
		func(s *api.Search) { s.Heads, s.Level, s.Next = nil, make([]int, 6), 1 },
		func(s *api.Search) { *s = clause.New(6) }, func(s *api.Search) { *s = api.Search{} },
		func(s *api.Search) {
			s.Watch[0] = append(s.Watch[0], 3)
			s.Watch[2] = append(s.Watch[2], 3)
			slices.Reverse(s.Watch[0])
			s.Clauses = append(s.Clauses, api.Clause{Lits: []int{1, 2}})
		},
	} {
		s := some(t)
		change(&s)
		was := copyOf(s)
		if !clause.Right(s) || !modelRight(s) {
			t.Errorf("%d: %v isn't", i, s)
		}
		stays(t, "Right", s, was)
	}
}

func TestP184RightIsnt(t *testing.T) {
	for i, change := range []func(s *api.Search){
		// lists that are shorter, or longer
		func(s *api.Search) { s.Value = s.Value[:5] }, func(s *api.Search) { s.Value = append(s.Value, 0) }, func(s *api.Search) { s.Level = s.Level[:5] }, func(s *api.Search) { s.Level = append(s.Level, 0) },
		func(s *api.Search) { s.Reason = s.Reason[:5] }, func(s *api.Search) { s.Reason = append(s.Reason, -1) }, func(s *api.Search) { s.Watch = s.Watch[:11] }, func(s *api.Search) { s.Watch = append(s.Watch, nil) }, func(s *api.Search) { s.Watch = nil },
		// clauses that may not be
		func(s *api.Search) { s.Clauses[0].Use = -1 }, func(s *api.Search) { s.Clauses[2].Use = math.MinInt }, func(s *api.Search) { s.Clauses[1].Lits[3] = 7 }, func(s *api.Search) { s.Clauses[1].Lits[3] = 0 }, func(s *api.Search) { s.Clauses[1].Lits[3] = math.MinInt },
		func(s *api.Search) { s.Clauses[1].Lits[3] = 5 }, func(s *api.Search) { s.Clauses[1].Lits[3] = -4 }, func(s *api.Search) { s.Clauses = append(s.Clauses, api.Clause{}) }, func(s *api.Search) { s.Clauses[0].Lits = s.Clauses[0].Lits[:1] },
		// who watches
		func(s *api.Search) { s.Clauses = append(s.Clauses, api.Clause{Lits: []int{1, 2}}) }, func(s *api.Search) { s.Watch[2] = nil }, func(s *api.Search) { s.Watch[9] = append(s.Watch[9], 0) }, func(s *api.Search) { s.Watch[2] = append(s.Watch[2], 0) },
		func(s *api.Search) { s.Watch[2] = append(s.Watch[2], 3) }, func(s *api.Search) { s.Watch[2] = append(s.Watch[2], -1) }, func(s *api.Search) { s.Watch[2][0] = math.MaxInt }, func(s *api.Search) { s.Watch[0], s.Watch[1] = s.Watch[1], s.Watch[0] },
		func(s *api.Search) { slices.Reverse(s.Clauses[1].Lits) },
		// what was told
		func(s *api.Search) { s.Value[0] = -1 }, func(s *api.Search) { s.Value[0] = 0 }, func(s *api.Search) { s.Value[0] = 2 }, func(s *api.Search) { s.Value[4] = 1 }, func(s *api.Search) { s.Value[4] = -2 }, func(s *api.Search) { s.Value[4] = math.MinInt }, func(s *api.Search) { s.Value[4] = 1 << 32 }, func(s *api.Search) { s.Value[4] = -1 << 32 }, func(s *api.Search) { s.Value[4], s.Value[0] = 1, 0 },
		func(s *api.Search) { s.Trail = s.Trail[:4]; s.Next = 4 }, func(s *api.Search) { s.Trail = append(s.Trail, 1) }, func(s *api.Search) { s.Trail = append(s.Trail, -1) }, func(s *api.Search) { s.Trail = append(s.Trail, 5) }, func(s *api.Search) { s.Trail = append(s.Trail, 0) },
		func(s *api.Search) { s.Trail[0] = 0 }, func(s *api.Search) { s.Trail[0] = 7 }, func(s *api.Search) { s.Trail[0] = math.MinInt }, func(s *api.Search) { s.Trail[0] = 6 }, func(s *api.Search) { s.Trail[0] = 1 },
		// levels
		func(s *api.Search) { s.Heads[0] = 0 }, func(s *api.Search) { s.Heads[0] = -1 }, func(s *api.Search) { s.Heads[1] = 5 }, func(s *api.Search) { s.Heads[1] = math.MaxInt }, func(s *api.Search) { s.Heads[1] = 1 }, func(s *api.Search) { s.Heads = append(s.Heads, 3) }, func(s *api.Search) { s.Heads = append(s.Heads, 5) },
		func(s *api.Search) { slices.Reverse(s.Heads) }, func(s *api.Search) { s.Heads = s.Heads[:1] }, func(s *api.Search) { s.Heads = []int{1, 2, 3} }, func(s *api.Search) { s.Level[0] = 0 }, func(s *api.Search) { s.Level[0] = 2 }, func(s *api.Search) { s.Level[5] = 1 }, func(s *api.Search) { s.Level[4] = 1 }, func(s *api.Search) { s.Level[4] = -1 },
		// a level that begins with what a clause told
		func(s *api.Search) { s.Heads, s.Level = []int{1, 2, 3}, []int{1, 2, 3, 3, 0, 0} },
		// reasons
		func(s *api.Search) { s.Reason[4] = 0 }, func(s *api.Search) { s.Reason[4] = -2 }, func(s *api.Search) { s.Reason[5] = -2 }, func(s *api.Search) { s.Reason[5] = 3 }, func(s *api.Search) { s.Reason[5] = 0 }, func(s *api.Search) { s.Reason[5] = math.MinInt }, func(s *api.Search) { s.Reason[5] = math.MaxInt },
		func(s *api.Search) { s.Reason[0] = 0 }, func(s *api.Search) { s.Reason[0] = 1 }, func(s *api.Search) { s.Reason[1] = 1 }, func(s *api.Search) { s.Reason[1] = 2 }, func(s *api.Search) { s.Reason[3] = 1 }, func(s *api.Search) { s.Reason[3] = 0 },
		// a clause that is false in all its literals, and has no other one
		func(s *api.Search) {
			s.Watch[1], s.Watch[10] = append(s.Watch[1], 3), append(s.Watch[10], 3)
			s.Clauses = append(s.Clauses, api.Clause{Lits: []int{6, -1}})
			s.Reason[1] = 3
		},
		// ahead of one of the literals that tell it
		func(s *api.Search) {
			s.Trail[1], s.Trail[2], s.Heads, s.Level = 2, 1, []int{3}, []int{0, 0, 1, 1, 0, 0}
		},
		// how far it was asked
		func(s *api.Search) { s.Next = -1 }, func(s *api.Search) { s.Next = 6 }, func(s *api.Search) { s.Next = math.MinInt }, func(s *api.Search) { s.Next = math.MaxInt },
	} {
		s := some(t)
		change(&s)
		was := copyOf(s)
		if clause.Right(s) || modelRight(s) {
			t.Errorf("%d: %v is", i, s)
		}
		stays(t, "Right", s, was)
	}
}

// change changes one number of a search by chance, or a list's length.
func change(r *rand.Rand, s *api.Search) {
	lists := []*[]int{&s.Value, &s.Level, &s.Reason, &s.Trail, &s.Heads}
	for i := range s.Clauses {
		lists = append(lists, &s.Clauses[i].Lits)
	}
	for i := range s.Watch {
		lists = append(lists, &s.Watch[i])
	}
	list := lists[r.IntN(len(lists))]
	switch by := r.IntN(7) - 3; {
	case r.IntN(20) == 0:
		s.Next += by
	case r.IntN(20) == 0 && len(s.Clauses) > 0:
		s.Clauses[r.IntN(len(s.Clauses))].Use += by
	case r.IntN(6) == 0:
		*list = append(*list, by)
	case len(*list) == 0:
	case r.IntN(6) == 0:
		*list = (*list)[:len(*list)-1]
	case r.IntN(4) == 0:
		i, j := r.IntN(len(*list)), r.IntN(len(*list))
		(*list)[i], (*list)[j] = (*list)[j], (*list)[i]
	default:
		(*list)[r.IntN(len(*list))] += by
	}
}

// P18.4: Right against its model, at searches of which a few numbers were changed.
func TestP184RightByChance(t *testing.T) {
	counts := [2]int{}
	for seed := range uint64(4000) {
		r := rand.New(rand.NewPCG(184, seed))
		s := anySearch(r, 1+r.IntN(6))
		for range 6 {
			if change(r, &s); clause.Right(s) != modelRight(s) {
				t.Fatalf("seed %d: %v: right is %v", seed, s, clause.Right(s))
			}
			if clause.Right(s) {
				counts[1]++
			} else {
				counts[0]++
			}
		}
	}
	if counts[0] < 1000 || counts[1] < 1000 {
		t.Error(counts)
	}
}
