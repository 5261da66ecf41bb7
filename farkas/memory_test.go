package farkas_test

import (
	"math/rand/v2"
	"reflect"
	"testing"

	"steelyard/api"
	"steelyard/farkas"
)

// lists puts each list within a thing that has memory.
func lists(v reflect.Value, put func(list reflect.Value)) {
	switch v.Kind() {
	case reflect.Struct:
		for i := range v.NumField() {
			lists(v.Field(i), put)
		}
	case reflect.Slice:
		if v.Cap() > 0 {
			put(v)
		}
		for i := range v.Len() {
			lists(v.Index(i), put)
		}
	}
}

// span is where a list's memory begins, and where it ends.
type span struct{ from, to uintptr }

// spans gives where the memory of all lists within things is, with the room behind them.
func spans(things ...any) []span {
	var all []span
	for _, thing := range things {
		lists(reflect.ValueOf(thing), func(list reflect.Value) {
			from := list.Pointer()
			all = append(all, span{from, from + uintptr(list.Cap())*list.Type().Elem().Size()})
		})
	}
	return all
}

// apart tells an error, if two lists of an answer share memory, or one of them and one of what was handed in.
func apart(t *testing.T, what string, answer, handed []span) {
	t.Helper()
	for i, s := range answer {
		for _, other := range append(handed, answer[:i]...) {
			if s.from < other.to && other.from < s.to {
				t.Fatalf("%s: lists share memory", what)
			}
		}
	}
}

// Rule 4: what Least answers shares nothing with what is handed in, nor with another answer; what is handed in doesn't change.
func TestNewMemoryLeast(t *testing.T) {
	r := rand.New(rand.NewPCG(16, 4))
	for range 3000 {
		p := someProblem(t, r)
		list := clash(t, r, p)
		list = append(list, api.Reason{Lit: 3, Coef: few(r)}, api.Reason{Lit: -4, Coef: few(r)})
		if r.IntN(2) == 0 {
			list = append(list, copyOfReasons(list)...)
		}
		kept, keptProblem := copyOfReasons(list), copyOf(p)
		apart(t, "Least", spans(farkas.Least(p, list), farkas.Least(p, list)), spans(p, list))
		farkas.Holds(p, list)
		if !reflect.DeepEqual(list, kept) || !reflect.DeepEqual(p, keptProblem) {
			t.Fatalf("%v is %v now, of %v", kept, list, p)
		}
	}
}

// The same list may stand in many reasons.
func TestNewMemoryOfShared(t *testing.T) {
	list := reasons(t, "18446744073709551616/3@1 1@2 1@3 1@1")
	list[1].Coef, list[2].Coef = list[0].Coef, list[0].Coef
	got := farkas.Least(api.Problem{}, list)
	apart(t, "Least", spans(got), spans(list))
	if want := "18446744073709551619/3@1 18446744073709551616/3@2 18446744073709551616/3@3"; why(got) != want {
		t.Errorf("%q", why(got))
	}
}
