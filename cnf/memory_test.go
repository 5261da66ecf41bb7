package cnf_test

import (
	"reflect"
	"slices"
	"testing"

	"steelyard/api"
	"steelyard/cnf"
)

// rich is a text of which something comes of all kinds, with numbers of many limbs.
const rich = `(assert (let ((a (+ x (* 2 y) 123456789012345678901234567890.5)) (b (ite p x (/ y 3))))
	(and (< a b z 1) (= p q (>= x 0.25)) (distinct x y 2.5) (=> p q (or p q)) (xor p q true) (ite p q (= x (- z) 4)))))
	(assert (< (+ x (* 2 y)) 1))(assert (< (- (* 5 x) (/ x 3)) 7))(assert p)`

// spare is how much room there is behind a list that nobody may touch.
const spare = 2

// roomy gives limbs in memory of their own, with room behind them.
func roomy(x api.Nat) api.Nat { return append(slices.Clone(x), 0xabcdef, 0xabcdef)[:len(x)] }

// roomyScript gives a script in memory of its own, with room behind all lists.
func roomyScript(s api.Script) api.Script {
	s.Bools = append(slices.Clone(s.Bools), "#", "#")[:len(s.Bools)]
	s.Reals = append(slices.Clone(s.Reals), "#", "#")[:len(s.Reals)]
	s.Asserts = append(slices.Clone(s.Asserts), -7, -7)[:len(s.Asserts)]
	s.Nodes = append(slices.Clone(s.Nodes), api.Node{Op: -7}, api.Node{Op: -7})[:len(s.Nodes)]
	for i, n := range s.Nodes {
		n.Kids = append(slices.Clone(n.Kids), -7, -7)[:len(n.Kids)]
		n.Number.Num.Mag, n.Number.Den = roomy(n.Number.Num.Mag), roomy(n.Number.Den)
		s.Nodes[i] = n
	}
	return s
}

// whole gives a script with the room behind all of its lists.
func whole(s api.Script) api.Script {
	s.Bools, s.Reals, s.Asserts = s.Bools[:len(s.Bools)+spare], s.Reals[:len(s.Reals)+spare], s.Asserts[:len(s.Asserts)+spare]
	nodes := slices.Clone(s.Nodes)
	for i, n := range nodes {
		num, den := n.Number.Num.Mag, n.Number.Den
		n.Kids = n.Kids[:len(n.Kids)+spare]
		n.Number.Num.Mag, n.Number.Den = num[:len(num)+spare], den[:len(den)+spare]
		nodes[i] = n
	}
	s.Nodes = append(nodes, s.Nodes[len(s.Nodes):len(s.Nodes)+spare]...)
	return s
}

// lists puts where the lists within a thing are kept, those that have memory.
func lists(v reflect.Value, put func(list reflect.Value)) {
	switch v.Kind() {
	case reflect.Struct:
		for i := range v.NumField() {
			lists(v.Field(i), put)
		}
	case reflect.Slice:
		if v.Cap() > 0 {
			put(v)
		}
		for i := range v.Len() {
			lists(v.Index(i), put)
		}
	}
}

// places gives where the lists of things are kept.
func places(things ...any) []uintptr {
	var at []uintptr
	for _, thing := range things {
		lists(reflect.ValueOf(thing), func(list reflect.Value) { at = append(at, list.Pointer()) })
	}
	return at
}

// spoil writes over all of the memory of a thing, its innermost lists first.
func spoil(thing any) {
	var all []reflect.Value
	lists(reflect.ValueOf(thing), func(list reflect.Value) { all = append(all, list) })
	for _, list := range slices.Backward(all) {
		list = list.Slice(0, list.Cap())
		for i := range list.Len() {
			list.Index(i).SetZero()
		}
	}
}

// Rule 4: what is handed in isn't changed, and isn't kept; what is answered is new memory, and each list has its own.
func TestMemory(t *testing.T) {
	handed := roomyScript(read(t, rich, 9))
	kept := roomyScript(handed)
	first, second := built(t, handed, 9), built(t, handed, 9)
	if !reflect.DeepEqual(whole(handed), whole(kept)) {
		t.Error("the script is changed")
	}
	want := show(first)
	at := places(handed, first, second)
	size := len(at)
	slices.Sort(at)
	if size < 500 || len(slices.Compact(at)) != size {
		t.Errorf("of %d lists two share memory", size)
	}
	spoil(handed)
	if show(first) != want || show(second) != want {
		t.Error("the script is kept")
	}
	spoil(second)
	if third := built(t, kept, 9); show(first) != want || show(third) != want {
		t.Error("two answers share memory")
	}
}

// A number that is answered as it is handed in is new memory, too.
func TestMemoryNumbers(t *testing.T) {
	s := api.Script{Nodes: []api.Node{number(value("18446744073709551617/3")), node(api.OpTrue), node(api.OpIte, 1, 0, 0)}}
	p := built(t, s, 9)
	want := show(p)
	spoil(s)
	if show(p) != want {
		t.Error("a number is kept")
	}
}

// A part of an answer may be added to, and touches no other one.
func TestMemoryRoom(t *testing.T) {
	p := built(t, read(t, rich, 9), 9)
	want := show(p)
	lists(reflect.ValueOf(p), func(list reflect.Value) {
		behind := list.Slice(list.Len(), list.Cap())
		for i := range behind.Len() {
			behind.Index(i).SetZero()
		}
	})
	if show(p) != want {
		t.Error("lists have room that is others'")
	}
}

// Right changes nothing.
func TestMemoryRight(t *testing.T) {
	p := good()
	p.Atoms[0].Bound.A = made(false, roomy(api.Nat{1, 2}), roomy(api.Nat{7}))
	p.Rows[0].Monos[0].Coef.Num.Mag = roomy(api.Nat{7})
	want := show(p)
	for range 2 {
		if !cnf.Right(p) || show(p) != want {
			t.Error("it is changed")
		}
	}
	if num := p.Atoms[0].Bound.A.Num.Mag; !slices.Equal(num[:4], api.Nat{1, 2, 0xabcdef, 0xabcdef}) {
		t.Error("room is touched")
	}
}
