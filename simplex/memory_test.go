package simplex_test

import (
	"math/rand/v2"
	"reflect"
	"testing"

	"steelyard/api"
	"steelyard/nat"
	"steelyard/simplex"
)

// lists puts each list within a thing that has memory.
func lists(v reflect.Value, put func(list reflect.Value)) {
	switch v.Kind() {
	case reflect.Struct:
		for i := range v.NumField() {
			lists(v.Field(i), put)
		}
	case reflect.Slice:
		if v.Cap() > 0 {
			put(v)
		}
		for i := range v.Len() {
			lists(v.Index(i), put)
		}
	}
}

// span is where a list's memory begins, and where it ends.
type span struct{ from, to uintptr }

// spans gives where the memory of all lists within things is, with the room behind them.
func spans(things ...any) []span {
	var all []span
	for _, thing := range things {
		lists(reflect.ValueOf(thing), func(list reflect.Value) {
			from := list.Pointer()
			all = append(all, span{from, from + uintptr(list.Cap())*list.Type().Elem().Size()})
		})
	}
	return all
}

// apart tells an error, if two lists of an answer share memory, or one of them and one of what was handed in.
func apart(t *testing.T, what string, answer, handed []span) {
	t.Helper()
	for i, s := range answer {
		for _, other := range append(handed, answer[:i]...) {
			if s.from < other.to && other.from < s.to {
				t.Fatalf("%s: lists share memory", what)
			}
		}
	}
}

// Rule 4: Bound keeps nothing of the bound, and doesn't change it; its reasons, those of Step, and the tableau's lists share nothing.
func TestNewMemoryBoundAndStep(t *testing.T) {
	r := rand.New(rand.NewPCG(15, 5))
	b := nat.New(1000)
	counts := [4]int{}
	for range 2500 {
		x := copyOf(anyTableau(r, 8, 3))
		apart(t, "at first", spans(x), nil)
		for range 4 {
			e := api.Edge{Lit: 1 + r.IntN(9), At: copyOfDelta(someValue(r, 3))}
			kept := api.Edge{Lit: e.Lit, At: copyOfDelta(e.At)}
			list, code := simplex.Bound(b, &x, r.IntN(len(x.Values)), r.IntN(2) == 0, e)
			if code != api.OK || !reflect.DeepEqual(e, kept) {
				t.Fatalf("%v; %v is %v now", code, kept, e)
			}
			apart(t, "Bound", spans(x, list), spans(e))
			if len(list) > 0 {
				counts[3]++
			}
			state, list, code := simplex.Step(b, &x)
			if code != api.OK {
				t.Fatal(code)
			}
			apart(t, "Step", spans(x, list), nil)
			counts[state]++
		}
		list, code := simplex.Check(b, &x)
		if code != api.OK {
			t.Fatal(code)
		}
		apart(t, "Check", spans(x, list), nil)
	}
	if counts[simplex.Settled] < 1000 || counts[simplex.Moved] < 1000 || counts[simplex.Clash] < 1000 || counts[3] < 500 {
		t.Error(counts)
	}
}

// A number of the tableau itself may be handed in.
func TestBoundOfItsOwnNumbers(t *testing.T) {
	x := read(t, "2: 1@0 1@1 | 1 5/7-2d 12/7-2d | - 4@1/7 - | - - -")
	b := nat.New(2)
	for _, c := range []struct {
		v     int
		upper bool
		at    api.Delta
		want  string
	}{
		{0, false, x.Values[2], "2: 1@0 1@1 | 12/7-2d 5/7-2d 17/7-4d | 7@12/7-2d 4@1/7 - | - - -"}, {2, true, x.Lower[1].At, "2: 1@0 1@1 | 12/7-2d 5/7-2d 17/7-4d | 7@12/7-2d 4@1/7 - | - - 7@1/7"},
		{1, true, x.Lower[1].At, "2: 1@0 1@1 | 12/7-2d 1/7 13/7-2d | 7@12/7-2d 4@1/7 - | - 7@1/7 7@1/7"},
	} {
		if list, code := simplex.Bound(b, &x, c.v, c.upper, api.Edge{Lit: 7, At: c.at}); code != api.OK || len(list) > 0 {
			t.Errorf("%d: %v, %q", c.v, code, why(list))
		}
		is(t, "its own", x, c.want)
		apart(t, "its own", spans(x), nil)
	}
}

// Rule 4: Literal's bound is new memory, and of what is handed in nothing changes.
func TestNewMemoryLiteral(t *testing.T) {
	p := atoms(t)
	for _, a := range p.Atoms {
		for _, lit := range []int{a.Bool + 1, -(a.Bool + 1), 0} {
			_, _, e := simplex.Literal(p, a, lit)
			_, _, f := simplex.Literal(p, a, lit)
			apart(t, "Literal", spans(e, f), spans(p))
		}
	}
	if !reflect.DeepEqual(p, atoms(t)) {
		t.Error("the problem is another one")
	}
}
