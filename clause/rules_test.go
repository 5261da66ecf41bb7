package clause_test

import (
	"fmt"
	"math"
	"math/rand/v2"
	"reflect"
	"slices"
	"strings"
	"testing"

	"steelyard/api"
	"steelyard/clause"
)

// oddInts gives numbers at the edges.
func oddInts() []int {
	return []int{math.MinInt, math.MinInt + 1, -4, -3, -2, -1, 0, 1, 2, 3, 4, 5, 1 << 32, math.MaxInt - 1, math.MaxInt}
}

// pick gives one of a list.
func pick[T any](r *rand.Rand, list []T) T { return list[r.IntN(len(list))] }

// oddList gives numbers that are seldom right.
func oddList(r *rand.Rand, most int) []int {
	list := make([]int, r.IntN(most+1))
	for i := range list {
		if list[i] = r.IntN(7) - 3; r.IntN(8) == 0 {
			list[i] = pick(r, oddInts())
		}
	}
	return list
}

// oddSearch gives a search that seldom is right.
func oddSearch(r *rand.Rand) api.Search {
	s := api.Search{Value: oddList(r, 6), Level: oddList(r, 6), Reason: oddList(r, 6), Trail: oddList(r, 8), Heads: oddList(r, 4), Next: r.IntN(5)}
	if r.IntN(5) == 0 {
		s.Next = pick(r, oddInts())
	}
	for range r.IntN(13) {
		s.Watch = append(s.Watch, oddList(r, 5))
	}
	for range r.IntN(6) {
		s.Clauses = append(s.Clauses, api.Clause{Lits: oddList(r, 5), Learned: r.IntN(2) == 0, Use: pick(r, oddInts())})
	}
	switch r.IntN(6) {
	// Lists may be one.
	case 0:
		s.Level = s.Value
	case 1:
		s.Trail = s.Value[:len(s.Value)/2]
	case 2:
		for i := range s.Watch {
			s.Watch[i] = s.Watch[0]
		}
	case 3:
		s.Reason, s.Heads = s.Trail, s.Trail
	// Nearly right ones.
	default:
		s = anySearch(r, 1+r.IntN(5))
		change(r, &s)
		if r.IntN(2) == 0 {
			change(r, &s)
		}
	}
	return s
}

// answers gives what all calls answer, at searches that seldom are right, as a text.
func answers(seed uint64, count int) string {
	r := rand.New(rand.NewPCG(18, seed))
	var out strings.Builder
	say := func(list ...any) { fmt.Fprintln(&out, list...) }
	for range count {
		s := oddSearch(r)
		for range 4 {
			say(clause.Right(s), clause.Value(s, pick(r, oddInts())))
			at, code := clause.Add(&s, oddList(r, 4), r.IntN(2) == 0)
			say(at, code, clause.Tell(&s, pick(r, oddInts()), pick(r, oddInts())), clause.Run(&s), clause.Decide(&s, pick(r, oddInts())), clause.Run(&s), s)
			say(clause.Back(&s, pick(r, oddInts())), s)
			clause.Reduce(&s, pick(r, oddInts()))
			say(clause.Run(&s), s)
		}
	}
	s := clause.New(pick(r, []int{math.MinInt, -1, 0, 1, 7, 50}))
	say(s, clause.Right(s))
	return out.String()
}

// P1: a call that panics ends the test, one that doesn't end is cut off.
func TestP1NoCallPanics(t *testing.T) {
	defer func() {
		if e := recover(); e != nil {
			t.Errorf("a call panics: %v", e)
		}
	}()
	for seed := range uint64(20) {
		answers(seed, 500)
	}
	for _, lit := range oddInts() {
		for _, n := range oddInts() {
			var s api.Search
			clause.Add(&s, []int{lit, n}, true)
			clause.Tell(&s, lit, n)
			clause.Decide(&s, lit)
			clause.Run(&s)
			clause.Back(&s, n)
			clause.Reduce(&s, n)
			stays(t, "nothing", s, api.Search{})
		}
	}
}

// P1: Run ends where two literals tell each other again and again, as what is told is lost in a list that is another one, too.
func TestP1RunEnds(t *testing.T) {
	s := with(t, 3, 0, []int{-1, 2}, []int{-2, 1}, []int{-1, -2, 3})
	s.Level = s.Value
	clause.Tell(&s, 1, -1)
	clause.Run(&s)
	clause.Run(&s)
}

// P1: Back of a search that was asked less than nothing, or more than all.
func TestP1BackNext(t *testing.T) {
	for _, next := range oddInts() {
		s := with(t, 3, 0, []int{1, 2, 3})
		clause.Tell(&s, -1, -1)
		clause.Decide(&s, 2)
		s.Next = next
		says(t, "gone", clause.Back(&s, 0), "[2]")
		if !clause.Right(s) || clause.Run(&s) != -1 || !clause.Right(s) {
			t.Errorf("%d: %v", next, s)
		}
	}
}

// P2: the same calls give the same answers, whatever goes on between them.
func TestP2SameCalls(t *testing.T) {
	first := answers(99, 300)
	answers(98, 20)
	if answers(99, 300) != first {
		t.Error("the same calls answer otherwise")
	}
}

// P2: what calls answer hangs on the lists, not on the room behind them.
func TestP2Room(t *testing.T) {
	for seed := range uint64(300) {
		s := anySearch(rand.New(rand.NewPCG(19, seed)), 6)
		tight, wide := copyOf(s), copyOf(s)
		for i := range s.Watch {
			tight.Watch[i], wide.Watch[i] = slices.Clip(tight.Watch[i]), slices.Grow(wide.Watch[i], 50)
		}
		tight.Trail, wide.Trail = slices.Clip(tight.Trail), slices.Grow(wide.Trail, 50)
		tight.Clauses, wide.Clauses = slices.Clip(tight.Clauses), slices.Grow(wide.Clauses, 50)
		var texts [2]string
		for i, x := range []*api.Search{&tight, &wide} {
			r := rand.New(rand.NewPCG(20, seed))
			c := caller{t, r, x, newModel(*x)}
			for range 60 {
				c.call()
			}
			texts[i] = fmt.Sprint(*x)
		}
		if texts[0] != texts[1] {
			t.Fatalf("seed %d: %s, and %s", seed, texts[0], texts[1])
		}
	}
}

// lists puts where the memory of each list within a thing begins, and where it ends.
func lists(v reflect.Value, put func(from, to uintptr)) {
	switch v.Kind() {
	case reflect.Struct:
		for i := range v.NumField() {
			lists(v.Field(i), put)
		}
	case reflect.Slice:
		if v.Cap() > 0 {
			put(v.Pointer(), v.Pointer()+uintptr(v.Cap())*v.Type().Elem().Size())
		}
		for i := range v.Len() {
			lists(v.Index(i), put)
		}
	}
}

// apart tells an error, if two lists within things share memory.
func apart(t *testing.T, what string, things ...any) {
	t.Helper()
	var spans [][2]uintptr
	for _, thing := range things {
		lists(reflect.ValueOf(thing), func(from, to uintptr) {
			for _, s := range spans {
				if s[0] < to && from < s[1] {
					t.Fatalf("%s: lists share memory", what)
				}
			}
			spans = append(spans, [2]uintptr{from, to})
		})
	}
}

// Rule 4: New's lists are new memory, Add keeps nothing of the literals, and what Back gives is no part of the trail.
func TestNewMemory(t *testing.T) {
	apart(t, "New", clause.New(5), clause.New(5))
	for seed := range uint64(200) {
		r := rand.New(rand.NewPCG(21, seed))
		s := clause.New(6)
		var handed []any
		for range 80 {
			lits := anyLits(r, 6)
			clause.Add(&s, lits, r.IntN(2) == 0)
			clause.Decide(&s, anyLit(r, 6))
			clause.Run(&s)
			handed = append(handed, lits, clause.Back(&s, r.IntN(4)))
			if r.IntN(8) == 0 {
				clause.Back(&s, 0)
				clause.Reduce(&s, r.IntN(9))
			}
		}
		apart(t, "all", append(handed, s)...)
	}
}

// Rule 4: Value and Right change nothing of what is handed in, and Add nothing of the literals.
func TestAskedStays(t *testing.T) {
	for seed := range uint64(1000) {
		r := rand.New(rand.NewPCG(22, seed))
		s := oddSearch(r)
		was := copyOf(s)
		clause.Right(s)
		for _, lit := range oddInts() {
			clause.Value(s, lit)
		}
		stays(t, "asked", s, was)
		lits := oddList(r, 5)
		kept := slices.Clone(lits)
		if _, code := clause.Add(&s, lits, true); code != api.OK {
			stays(t, "a wrong clause", s, was)
		}
		if !slices.Equal(lits, kept) {
			t.Fatalf("%v are %v now", kept, lits)
		}
	}
}

// Rule 3: lists without elements are one, however they are told.
func TestNoElements(t *testing.T) {
	full := api.Search{Clauses: []api.Clause{}, Watch: [][]int{}, Value: []int{}, Level: []int{}, Reason: []int{}, Trail: []int{}, Heads: []int{}}
	for _, s := range []api.Search{{}, full, clause.New(0)} {
		if !clause.Right(s) || clause.Run(&s) != -1 || len(clause.Back(&s, 0)) > 0 {
			t.Errorf("%v", s)
		}
		clause.Reduce(&s, -1)
		stays(t, "nothing", s, api.Search{})
	}
	s, other := clause.New(3), clause.New(3)
	for i := range s.Watch {
		s.Watch[i], other.Watch[i] = nil, []int{}
	}
	s.Trail, other.Trail = nil, []int{}
	for _, x := range []*api.Search{&s, &other} {
		clause.Add(x, []int{1, 2}, true)
		clause.Decide(x, -1)
		if clause.Run(x) != -1 || !clause.Right(*x) {
			t.Errorf("%v", *x)
		}
	}
	stays(t, "none", s, other)
}
