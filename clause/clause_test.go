package clause_test

import (
	"fmt"
	"math"
	"slices"
	"testing"

	"steelyard/api"
	"steelyard/clause"
)

func TestExample(t *testing.T) {
	s := with(t, 2, 1, []int{1, 2})
	if !clause.Tell(&s, -1, -1) || clause.Run(&s) != -1 {
		t.Errorf("%v", s)
	}
	if clause.Value(s, 2) != 1 || s.Reason[1] != 0 {
		t.Errorf("%v", s)
	}
}

func TestP181New(t *testing.T) {
	for n, want := range map[int]int{
		math.MinInt: 0, -1: 0, 0: 0, 1: 1, 2: 2, 1000: 1000, 1<<20 - 1: 1<<20 - 1, 1 << 20: 1 << 20, 1<<20 + 1: 1 << 20, 1 << 40: 1 << 20, math.MaxInt: 1 << 20,
	} {
		s := clause.New(n)
		if len(s.Value) != want || len(s.Level) != want || len(s.Reason) != want || len(s.Watch) != 2*want || !clause.Right(s) {
			t.Errorf("%d: %d", n, len(s.Value))
		}
		if len(s.Clauses)+len(s.Trail)+len(s.Heads)+s.Next != 0 {
			t.Errorf("%d: something is told", n)
		}
		for v := range want {
			if s.Value[v] != 0 || s.Level[v] != 0 || s.Reason[v] != -1 {
				t.Fatalf("%d: %d is told", n, v)
			}
		}
	}
}

func TestP181Add(t *testing.T) {
	s := clause.New(4)
	wrong := [][]int{nil, {}, {1}, {-4}, {0}, {5}, {0, 1}, {1, 0}, {1, 5}, {5, 1}, {-5, 1}, {1, 2, 5}, {1, 2, 0}, {1, 2, -5}, {1, 1}, {1, -1}, {-1, 1}, {-2, -2}, {1, 2, 1}, {1, 2, -1}, {1, 2, -2}, {4, 2, 3, 1, -4}, {1, 2, 3, 4, 4}, {math.MinInt, 1}, {1, math.MinInt}, {1, math.MaxInt}, {math.MinInt, math.MaxInt}}
	for i, lits := range [][]int{{1, 2}, {-1, -2}, {2, 1}, {4, -3, 2}, {-1, 2, -3, 4}, {1, 2}, {-4, -1}} {
		for _, other := range wrong {
			was := copyOf(s)
			if at, code := clause.Add(&s, other, i%2 == 0); at != 0 || code != api.ErrArg {
				t.Errorf("%v: %d, %v", other, at, code)
			}
			stays(t, "a wrong one", s, was)
		}
		if at, code := clause.Add(&s, lits, i%2 == 1); at != i || code != api.OK {
			t.Errorf("%v: %d, %v", lits, at, code)
		}
		if c := s.Clauses[i]; !slices.Equal(c.Lits, lits) || c.Learned != (i%2 == 1) || c.Use != 0 || len(s.Clauses) != i+1 || !clause.Right(s) {
			t.Errorf("%v: %v", lits, s)
		}
	}
	says(t, "who watches", s.Watch, "[[0 2 5] [1 4 6] [0 2 4 5] [1] [] [3] [3] [6]]")
	none := clause.New(0)
	if at, code := clause.Add(&none, []int{1, 2}, false); at != 0 || code != api.ErrArg {
		t.Errorf("%d, %v", at, code)
	}
}

func TestP181Value(t *testing.T) {
	s := clause.New(3)
	clause.Tell(&s, 1, -1)
	clause.Tell(&s, -3, -1)
	for lit, want := range map[int]int{1: 1, -1: -1, 2: 0, -2: 0, 3: -1, -3: 1, 0: 0, 4: 0, -4: 0, math.MinInt: 0, math.MaxInt: 0, math.MinInt + 1: 0} {
		if got := clause.Value(s, lit); got != want {
			t.Errorf("%d: %d", lit, got)
		}
	}
	for _, lit := range []int{math.MinInt, -1, 0, 1, math.MaxInt} {
		if got := clause.Value(api.Search{}, lit); got != 0 {
			t.Errorf("%d of none: %d", lit, got)
		}
	}
}

func TestP182Tell(t *testing.T) {
	s := with(t, 4, 1, []int{1, 2, 3})
	for _, c := range []struct {
		lit, reason int
		want        bool
		trail       string
	}{
		{-2, -1, true, "[-2]"}, {-2, 0, true, "[-2]"}, {2, -1, false, "[-2]"}, {0, -1, false, "[-2]"}, {5, -1, false, "[-2]"}, {-5, -1, false, "[-2]"}, {math.MinInt, -1, false, "[-2]"}, {math.MaxInt, -1, false, "[-2]"},
		{-3, -1, true, "[-2 -3]"}, {1, 0, true, "[-2 -3 1]"}, {-1, 0, false, "[-2 -3 1]"}, {4, -1, true, "[-2 -3 1 4]"},
	} {
		was := copyOf(s)
		if clause.Tell(&s, c.lit, c.reason) != c.want || !clause.Right(s) {
			t.Errorf("%d: %v", c.lit, !c.want)
		}
		says(t, "the trail", s.Trail, c.trail)
		if len(s.Trail) == len(was.Trail) {
			stays(t, "told ahead", s, was)
		}
	}
	says(t, "all", []any{s.Value, s.Level, s.Reason, s.Heads, s.Next}, "[[1 -1 -1 1] [0 0 0 0] [0 -1 -1 -1] [] 0]")
}

func TestP182Decide(t *testing.T) {
	s := clause.New(5)
	clause.Tell(&s, 2, -1)
	for i, lit := range []int{-4, 1, 3} {
		if !clause.Decide(&s, lit) || !clause.Right(s) {
			t.Errorf("%d: %v", lit, s)
		}
		if i == 0 {
			clause.Tell(&s, -5, -1)
		}
		was := copyOf(s)
		for _, other := range []int{lit, -lit, 2, -2, 0, 6, -6, math.MinInt, math.MaxInt} {
			if clause.Decide(&s, other) {
				t.Errorf("%d is decided", other)
			}
			stays(t, "not decided", s, was)
		}
	}
	says(t, "all", []any{s.Trail, s.Heads, s.Value, s.Level, s.Reason}, "[[2 -4 -5 1 3] [1 3 4] [1 1 1 -1 -1] [2 0 3 1 1] [-1 -1 -1 -1 -1]]")
}

func TestP182Back(t *testing.T) {
	build := func() api.Search {
		s := with(t, 6, 1, []int{-3, 4, 5})
		clause.Tell(&s, 1, -1)
		clause.Decide(&s, -2)
		clause.Decide(&s, 3)
		clause.Tell(&s, -4, -1)
		clause.Tell(&s, 5, 0)
		clause.Decide(&s, 6)
		s.Next = 5
		return s
	}
	for _, c := range []struct {
		level int
		want  string
	}{
		{math.MinInt, "[[6 5 -4 3 -2] [1] [] [1 0 0 0 0 0] [0 0 0 0 0 0] [-1 -1 -1 -1 -1 -1] 1]"}, {-1, "[[6 5 -4 3 -2] [1] [] [1 0 0 0 0 0] [0 0 0 0 0 0] [-1 -1 -1 -1 -1 -1] 1]"}, {0, "[[6 5 -4 3 -2] [1] [] [1 0 0 0 0 0] [0 0 0 0 0 0] [-1 -1 -1 -1 -1 -1] 1]"},
		{1, "[[6 5 -4 3] [1 -2] [1] [1 -1 0 0 0 0] [0 1 0 0 0 0] [-1 -1 -1 -1 -1 -1] 2]"}, {2, "[[6] [1 -2 3 -4 5] [1 2] [1 -1 1 -1 1 0] [0 1 2 2 2 0] [-1 -1 -1 -1 0 -1] 5]"},
		{3, "[[] [1 -2 3 -4 5 6] [1 2 5] [1 -1 1 -1 1 1] [0 1 2 2 2 3] [-1 -1 -1 -1 0 -1] 5]"}, {4, "[[] [1 -2 3 -4 5 6] [1 2 5] [1 -1 1 -1 1 1] [0 1 2 2 2 3] [-1 -1 -1 -1 0 -1] 5]"}, {math.MaxInt, "[[] [1 -2 3 -4 5 6] [1 2 5] [1 -1 1 -1 1 1] [0 1 2 2 2 3] [-1 -1 -1 -1 0 -1] 5]"},
	} {
		s := build()
		gone := clause.Back(&s, c.level)
		says(t, "back", []any{gone, s.Trail, s.Heads, s.Value, s.Level, s.Reason, s.Next}, c.want)
		if !clause.Right(s) {
			t.Errorf("%d: %v", c.level, s)
		}
	}
}

// What was asked less far than the level began stays so.
func TestP182BackNotAsked(t *testing.T) {
	s := clause.New(3)
	clause.Tell(&s, 1, -1)
	clause.Tell(&s, 2, -1)
	clause.Decide(&s, 3)
	s.Next = 1
	says(t, "gone", clause.Back(&s, 0), "[3]")
	if s.Next != 1 {
		t.Errorf("%v", s)
	}
}

func TestP184Reduce(t *testing.T) {
	uses := []int{5, 0, 3, 1, 3, 1, 9, 0}
	learned := []bool{false, true, true, true, true, true, true, false}
	for most, want := range map[int]string{
		7: "[0 1 2 3 4 5 6 7]", 6: "[0 1 2 3 4 5 6 7]", math.MaxInt: "[0 1 2 3 4 5 6 7]",
		// of six learned ones 1 is used least, then 3 and 5, 2 and 4, 6
		5: "[0 4 6 7]", 4: "[0 4 6 7]", 3: "[0 6 7]", 2: "[0 6 7]", 1: "[0 7]", 0: "[0 7]", -1: "[0 7]", -2: "[0 7]", math.MinInt: "[0 7]",
	} {
		s := clause.New(10)
		for i, use := range uses {
			// The third literal tells which clause it is.
			clause.Add(&s, []int{1, -2, i + 3}, learned[i])
			s.Clauses[i].Use = use
		}
		clause.Reduce(&s, most)
		var left []int
		for _, c := range s.Clauses {
			i := c.Lits[2] - 3
			if left = append(left, i); c.Use != uses[i] || c.Learned != learned[i] {
				t.Errorf("%d: %v", most, c)
			}
		}
		says(t, "left", left, want)
		if !clause.Right(s) {
			t.Errorf("%d: %v", most, s)
		}
	}
}

// What is left tells what follows as it did.
func TestP184ReduceThenRun(t *testing.T) {
	s := with(t, 6, 2, []int{-1, 2, 3}, []int{-3, 4}, []int{-1, 5}, []int{-4, -2, 6}, []int{-3, 6})
	s.Clauses[3].Use = 1
	clause.Reduce(&s, 2)
	clause.Tell(&s, 1, -1)
	clause.Tell(&s, -2, -1)
	if at := clause.Run(&s); at != -1 || !clause.Right(s) || len(s.Clauses) != 3 {
		t.Errorf("%d, %v", at, s)
	}
	says(t, "told", []any{s.Value, s.Reason}, "[[1 -1 1 1 0 0] [-1 -1 0 1 -1 -1]]")
}

// At a level above 0 nothing happens; at the level 0 no reasons stay, whether clauses go or not.
func TestP184ReduceReasons(t *testing.T) {
	for _, c := range []struct {
		decide bool
		most   int
		want   string
	}{
		{true, 0, "[2 [-1 0 1 -1]]"}, {true, math.MinInt, "[2 [-1 0 1 -1]]"}, {false, 1, "[2 [-1 -1 -1 -1]]"}, {false, 0, "[1 [-1 -1 -1 -1]]"},
	} {
		s := with(t, 4, 1, []int{-1, 2}, []int{-2, 3})
		clause.Tell(&s, 1, -1)
		if at := clause.Run(&s); at != -1 {
			t.Error(at)
		}
		if c.decide {
			clause.Decide(&s, 4)
		}
		was := copyOf(s)
		clause.Reduce(&s, c.most)
		says(t, "reduced", []any{len(s.Clauses), s.Reason}, c.want)
		says(t, "told", []any{s.Trail, s.Heads, s.Value, s.Level, s.Next}, fmt.Sprint([]any{was.Trail, was.Heads, was.Value, was.Level, was.Next}))
		if c.decide {
			stays(t, "above 0", s, was)
		}
		if !clause.Right(s) {
			t.Errorf("%v", s)
		}
	}
}
