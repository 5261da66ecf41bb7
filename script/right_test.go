package script_test

import (
	"math"
	"slices"
	"testing"

	"steelyard/api"
	"steelyard/ratio"
	"steelyard/script"
)

// whole gives a script with nodes of many kinds, that is right.
func whole(t *testing.T) api.Script {
	t.Helper()
	return read(t, head+"(assert (let ((a (< (* 2 x) 1.5))) (ite p (not a) (= y (+ x 1)))))(assert q)(check-sat)", 2)
}

func TestP112Right(t *testing.T) {
	s := whole(t)
	if show(s) != "2 x (* 0 1) 3/2 (< 2 3) p (not 4) y x 1 (+ 8 9) (= 7 10) (ite 5 6 11) q | 12 13" {
		t.Fatal(show(s))
	}
	rights := func(what string, s api.Script, want bool) {
		t.Helper()
		if got := script.Right(s); got != want {
			t.Errorf("%s: %v", what, got)
		}
	}
	rights("nothing", api.Script{}, true)
	rights("empty lists", api.Script{Bools: []string{}, Reals: []string{}, Nodes: []api.Node{}, Asserts: []int{}}, true)
	rights("as it is read", s, true)
	// Names, what is asked, and how often something is asserted don't matter.
	other := s
	other.Bools, other.Reals, other.Check, other.Model = []string{"", "not"}, []string{"not", "#"}, false, true
	other.Asserts = []int{4, 12, 4, 5, 6, 11, 13, 13}
	rights("other names", other, true)
	other.Asserts = nil
	rights("no asserts", other, true)
	other.Bools, other.Reals = make([]string, 9), make([]string, 9)
	rights("more unknowns", other, true)
	for _, at := range []int{0, 1, 2, 3, 7, 8, 9, 10, 14, 15, -1, math.MinInt, math.MaxInt, 1 << 32} {
		for _, list := range [][]int{{at}, {12, at}, {at, 13}} {
			other := s
			other.Asserts = list
			rights("an assert", other, false)
		}
	}
	for _, names := range [][2]int{{0, 2}, {1, 2}, {2, 1}, {2, 0}, {0, 0}} {
		other := s
		other.Bools, other.Reals = make([]string, names[0]), make([]string, names[1])
		rights("unknowns", other, false)
	}
}

func TestP112WrongNodes(t *testing.T) {
	s := whole(t)
	for _, wrong := range []api.Node{
		{}, {Op: 22}, {Op: -1}, {Op: math.MaxInt}, {Op: api.OpTrue, Var: 1}, {Op: api.OpTrue, Number: ratio.Of(1)}, {Op: api.OpBool, Var: 2}, {Op: api.OpReal, Var: 2}, {Op: api.OpReal, Var: -1}, {Op: api.OpNumber, Number: api.Ratio{Den: api.Nat{2}}},
		{Op: api.OpNot}, {Op: api.OpNot, Kids: []int{0}}, {Op: api.OpNot, Kids: []int{4, 4}}, {Op: api.OpNot, Kids: []int{14}}, {Op: api.OpNot, Kids: []int{-1}}, {Op: api.OpAnd, Kids: []int{4}}, {Op: api.OpAdd, Kids: []int{0}}, {Op: api.OpAdd, Kids: []int{0, 4}}, {Op: api.OpMul, Kids: []int{1, 1}}, {Op: api.OpDiv, Kids: []int{0, 1}},
	} {
		for _, place := range []int{14, 0, 7} {
			other := s
			other.Nodes = slices.Insert(slices.Clone(s.Nodes), place, wrong)
			if script.Right(other) {
				t.Errorf("%v at %d", wrong, place)
			}
		}
	}
	for at := range s.Nodes {
		other := s
		other.Nodes = slices.Clone(s.Nodes)
		other.Nodes[at].Kids = append([]int{at}, other.Nodes[at].Kids...)
		if script.Right(other) {
			t.Errorf("%d is over itself", at)
		}
	}
}

func TestP112Space(t *testing.T) {
	s := api.Script{Nodes: make([]api.Node, api.MaxNodes), Asserts: []int{0, api.MaxNodes - 1}}
	for i := range s.Nodes {
		s.Nodes[i].Op = api.OpFalse
	}
	if !script.Right(s) {
		t.Error("as many nodes as may be")
	}
	s.Nodes = append(s.Nodes, api.Node{Op: api.OpTrue})
	if script.Right(s) {
		t.Error("one node more")
	}
}
