package clause_test

import (
	"slices"
	"testing"

	"steelyard/api"
	"steelyard/clause"
)

func TestP183Nothing(t *testing.T) {
	for _, s := range []api.Search{clause.New(0), clause.New(3), with(t, 3, 1, []int{1, 2, 3}), with(t, 2, 2, []int{1, 2}, []int{-1, -2})} {
		was := copyOf(s)
		if at := clause.Run(&s); at != -1 {
			t.Error(at)
		}
		stays(t, "nothing told", s, was)
	}
}

// One tells the next one, to the last one; what is told is so at the level that there is.
func TestP183Chain(t *testing.T) {
	s := with(t, 6, 9, []int{-5, 6}, []int{-4, 5}, []int{-3, 4}, []int{-2, 3}, []int{-1, 2})
	clause.Tell(&s, -6, -1)
	for range 2 {
		if at := clause.Run(&s); at != -1 || s.Next != 6 || !clause.Right(s) {
			t.Errorf("%d, %v", at, s)
		}
		says(t, "all", []any{s.Trail, s.Reason, s.Level}, "[[-6 -5 -4 -3 -2 -1] [4 3 2 1 0 -1] [0 0 0 0 0 0]]")
	}
	s = with(t, 6, 9, []int{-1, 2, 3}, []int{-3, 4}, []int{-1, -4, -5, 6})
	clause.Decide(&s, -2)
	clause.Run(&s)
	clause.Decide(&s, 1)
	clause.Run(&s)
	says(t, "two levels", []any{s.Trail, s.Heads, s.Level, s.Reason}, "[[-2 1 3 4] [0 1] [2 1 2 2 0 0] [-1 -1 0 1 -1 -1]]")
	clause.Decide(&s, -6)
	if at := clause.Run(&s); at != -1 || !clause.Right(s) {
		t.Errorf("%d, %v", at, s)
	}
	says(t, "three levels", []any{s.Trail, s.Heads, s.Level, s.Reason}, "[[-2 1 3 4 -6 -5] [0 1 4] [2 1 2 2 3 3] [-1 -1 0 1 2 -1]]")
}

// Whichever of a clause's literals is left, in whichever order the others are told false: it is told.
func TestP183EachOrder(t *testing.T) {
	for _, order := range orders(4) {
		for _, signs := range []int{1, -1} {
			for _, levels := range []bool{false, true} {
				s := with(t, 4, 1, []int{signs * 1, 2, -signs * 3, -4})
				lits := slices.Clone(s.Clauses[0].Lits)
				for i, x := range order {
					if i == 3 {
						if clause.Value(s, lits[x]) != 1 || s.Reason[x] != 0 {
							t.Errorf("%v: %v", order, s)
						}
						break
					}
					if levels {
						clause.Decide(&s, -lits[x])
					} else {
						clause.Tell(&s, -lits[x], -1)
					}
					if at := clause.Run(&s); at != -1 || !clause.Right(s) || s.Clauses[0].Use != 0 {
						t.Errorf("%v: %d, %v", order, at, s)
					}
				}
			}
		}
	}
}

// orders gives all orders of the numbers from 0 to below n.
func orders(n int) [][]int {
	if n == 0 {
		return [][]int{nil}
	}
	var all [][]int
	for _, list := range orders(n - 1) {
		for i := range n {
			all = append(all, slices.Insert(slices.Clone(list), i, n-1))
		}
	}
	return all
}

// A clause all of whose literals are told false ahead of Run is false, in whichever order they were told; and again, as long as nothing else is told.
func TestP183False(t *testing.T) {
	for _, order := range orders(3) {
		s := with(t, 3, 1, []int{1, 2, 3})
		for _, x := range order {
			clause.Tell(&s, -(x + 1), -1)
		}
		for i := range 3 {
			if at := clause.Run(&s); at != 0 || s.Clauses[0].Use != i+1 || !clause.Right(s) || len(s.Trail) != 3 {
				t.Errorf("%v: %d, %v", order, at, s)
			}
		}
	}
}

// A run that finds a clause false leaves all others as they are watched, and those that weren't asked are asked behind Back.
func TestP183BehindFalse(t *testing.T) {
	s := with(t, 6, 9, []int{-1, 2}, []int{-1, -2}, []int{-1, 3}, []int{-1, 4}, []int{5, 6}, []int{-3, -4, 6})
	clause.Tell(&s, -5, -1)
	clause.Decide(&s, 1)
	at := clause.Run(&s)
	if at != 0 && at != 1 || s.Clauses[at].Use != 1 || s.Clauses[1-at].Use != 0 || !clause.Right(s) {
		t.Errorf("%d, %v", at, s)
	}
	clause.Back(&s, 0)
	if again := clause.Run(&s); again != -1 || !clause.Right(s) || s.Next != len(s.Trail) {
		t.Errorf("%d, %v", again, s)
	}
	says(t, "told", s.Trail, "[-5 6]")
	clause.Decide(&s, 3)
	clause.Tell(&s, 1, -1)
	if again := clause.Run(&s); again != 0 && again != 1 || !clause.Right(s) {
		t.Errorf("%d, %v", again, s)
	}
}

// Literals told ahead of a Run are asked by it at whichever level they were told.
func TestP183ToldAhead(t *testing.T) {
	s := with(t, 4, 9, []int{-1, 2}, []int{-2, 3})
	clause.Tell(&s, 1, -1)
	clause.Decide(&s, 4)
	if at := clause.Run(&s); at != -1 || !clause.Right(s) {
		t.Errorf("%d, %v", at, s)
	}
	says(t, "all", []any{s.Trail, s.Level, s.Reason}, "[[1 4 2 3] [0 1 1 1] [-1 0 1 -1]]")
}

// A lesson: its first literal is told by it, the second one is told false; behind Back it tells the same.
func TestP183Lesson(t *testing.T) {
	s := clause.New(4)
	clause.Decide(&s, 1)
	clause.Run(&s)
	clause.Decide(&s, 2)
	clause.Run(&s)
	clause.Back(&s, 1)
	if at, code := clause.Add(&s, []int{-2, -1}, true); at != 0 || code != api.OK || !clause.Tell(&s, -2, 0) || clause.Run(&s) != -1 || !clause.Right(s) {
		t.Errorf("%v", s)
	}
	says(t, "told", []any{s.Trail, s.Level, s.Reason}, "[[1 -2] [1 1 0 0] [-1 0 -1 -1]]")
	clause.Back(&s, 0)
	clause.Decide(&s, 2)
	if at := clause.Run(&s); at != -1 || clause.Value(s, 1) != -1 || !clause.Right(s) {
		t.Errorf("%d, %v", at, s)
	}
}

// A clause whose first literal is told true, later than all others of it are told false, tells it again when it is told no more.
func TestP183FirstIsTrue(t *testing.T) {
	for _, lits := range [][]int{{2, -1}, {2, -1, -3}, {2, -3, -1}} {
		for _, late := range []bool{false, true} {
			s := clause.New(4)
			clause.Tell(&s, 3, -1)
			clause.Decide(&s, 1)
			clause.Run(&s)
			if late {
				clause.Add(&s, lits, false)
			}
			clause.Decide(&s, 2)
			if !late {
				clause.Add(&s, lits, false)
			}
			if at := clause.Run(&s); at != -1 || !clause.Right(s) {
				t.Errorf("%v: %d, %v", lits, at, s)
			}
			clause.Back(&s, 1)
			if at := clause.Run(&s); at != -1 || clause.Value(s, 2) != 1 || s.Reason[1] != 0 || s.Next != 3 || !clause.Right(s) {
				t.Errorf("%v: %d, %v", lits, at, s)
			}
		}
	}
}
