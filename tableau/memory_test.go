package tableau_test

import (
	"math/rand/v2"
	"reflect"
	"testing"

	"steelyard/api"
	"steelyard/nat"
	"steelyard/tableau"
)

// lists puts each list within a thing that has memory.
func lists(v reflect.Value, put func(list reflect.Value)) {
	switch v.Kind() {
	case reflect.Struct:
		for i := range v.NumField() {
			lists(v.Field(i), put)
		}
	case reflect.Slice:
		if v.Cap() > 0 {
			put(v)
		}
		for i := range v.Len() {
			lists(v.Index(i), put)
		}
	}
}

// span is where a list's memory begins, and where it ends.
type span struct{ from, to uintptr }

// spans gives where the memory of all lists within things is, with the room behind them.
func spans(things ...any) []span {
	var all []span
	for _, thing := range things {
		lists(reflect.ValueOf(thing), func(list reflect.Value) {
			from := list.Pointer()
			all = append(all, span{from, from + uintptr(list.Cap())*list.Type().Elem().Size()})
		})
	}
	return all
}

// apart tells an error, if two lists of an answer share memory, or one of them and one of what was handed in.
func apart(t *testing.T, what string, answer, handed []span) {
	t.Helper()
	for i, s := range answer {
		for _, other := range append(handed, answer[:i]...) {
			if s.from < other.to && other.from < s.to {
				t.Fatalf("%s: lists share memory", what)
			}
		}
	}
}

// Rule 4: New keeps nothing of a problem, and doesn't change it.
func TestNewMemoryNew(t *testing.T) {
	p := problem(t, 4, "1@0 18446744073709551616@2; 1@1 -1/3@2 5@3; 1@0 1@1")
	x := tableau.New(p)
	apart(t, "New", spans(x), spans(p))
	for _, q := range p.Rows {
		for i := range q.Monos {
			q.Monos[i].Coef.Num.Mag[0] ^= 5
			q.Monos[i].Var = 77
		}
	}
	is(t, "New", x, "4: 1@0 18446744073709551616@2; 5: 1@1 -1/3@2 5@3; 6: 1@0 1@1 | 0 0 0 0 0 0 0")
	y := tableau.New(problem(t, 2, "1@0 1@1"))
	apart(t, "New twice", spans(x, y), nil)
}

// Rule 4: Update keeps nothing of the number, and doesn't change it; neither Update nor Pivot lets two lists share memory.
func TestNewMemoryChanges(t *testing.T) {
	r := rand.New(rand.NewPCG(14, 6))
	b := nat.New(1000)
	for range 1500 {
		x := copyOf(someTableau(r, 8, 3))
		apart(t, "at first", spans(x), nil)
		for range 3 {
			if row, v, ok := turns(r, x); ok {
				if code := tableau.Pivot(b, &x, row, v); code != api.OK {
					t.Fatal(code)
				}
				apart(t, "Pivot", spans(x), nil)
			}
			v, y := r.IntN(len(x.Values)), copyOfDelta(someValue(r, 3))
			kept := copyOfDelta(y)
			if tableau.Update(b, &x, v, y) == api.OK {
				apart(t, "Update", spans(x), spans(y))
			}
			if !reflect.DeepEqual(y, kept) {
				t.Fatalf("%v is %v now", kept, y)
			}
		}
	}
}

// A number of the tableau itself may be handed in.
func TestUpdateToItsOwnNumbers(t *testing.T) {
	x := read(t, "3: 1@0 2@1 | 1-2d 5/7 9 17/7-2d | 4@3-1d - - - | - - - -6@2")
	b := nat.New(4)
	for _, c := range []struct {
		v    int
		y    api.Delta
		want string
	}{
		{1, x.Values[0], "3: 1@0 2@1 | 1-2d 1-2d 9 3-6d | 4@3-1d - - - | - - - -6@2"}, {0, x.Values[3], "3: 1@0 2@1 | 17/7-2d 1-2d 9 31/7-6d | 4@3-1d - - - | - - - -6@2"},
		{0, x.Lower[0].At, "3: 1@0 2@1 | 3-1d 1-2d 9 5-5d | 4@3-1d - - - | - - - -6@2"}, {2, x.Values[2], "3: 1@0 2@1 | 3-1d 1-2d 9 5-5d | 4@3-1d - - - | - - - -6@2"},
	} {
		if code := tableau.Update(b, &x, c.v, c.y); code != api.OK {
			t.Error(code)
		}
		is(t, "Update", x, c.want)
		apart(t, "Update", spans(x), nil)
	}
}

// Right, Row, and Same change nothing.
func TestNothingIsChanged(t *testing.T) {
	x := rich(t)
	for v := range 8 {
		tableau.Row(x, v-1)
	}
	if !tableau.Right(x) || !tableau.Same(x, x) || !reflect.DeepEqual(x, rich(t)) {
		t.Errorf("%s", show(x))
	}
}
