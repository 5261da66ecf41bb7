package term_test

import (
	"math"
	"slices"
	"testing"

	"steelyard/api"
	"steelyard/ratio"
	"steelyard/term"
)

func TestP93Right(t *testing.T) {
	nodes := someRight(t)
	for count := range len(nodes) + 1 {
		if !term.Right(nodes[:count], 2, 2) {
			t.Errorf("the first %d aren't right", count)
		}
	}
	if !term.Right(nil, 0, 0) || !term.Right(nil, math.MinInt, math.MaxInt) {
		t.Error("no nodes aren't right")
	}
}

// How many unknowns of each sort there are.
func TestP93Unknowns(t *testing.T) {
	nodes := []api.Node{unknown(api.OpBool, 2), unknown(api.OpReal, 4)}
	for _, c := range []struct {
		bools, reals int
		want         bool
	}{
		{3, 5, true}, {2, 5, false}, {3, 4, false}, {5, 3, false}, {math.MaxInt, math.MaxInt, true}, {0, 0, false}, {-1, 5, false}, {3, -1, false}, {math.MinInt, math.MinInt, false},
	} {
		if term.Right(nodes, c.bools, c.reals) != c.want {
			t.Errorf("%d and %d: not %v", c.bools, c.reals, c.want)
		}
	}
	if term.Right(nodes[:1], 0, 3) || term.Right(nodes[1:], 5, 0) || !term.Right([]api.Node{over(api.OpTrue), number(3)}, math.MinInt, -1) {
		t.Error("unknowns of another sort")
	}
}

// One wrong node is enough, wherever it is; each is wrong by another error.
func TestP93Wrong(t *testing.T) {
	nodes := someRight(t)
	for _, wrong := range []api.Node{
		over(0), over(22), unknown(api.OpBool, 2), {Op: api.OpTrue, Var: 1}, {Op: api.OpFalse, Number: ratio.Of(1)}, {Op: api.OpNumber, Number: made(false, api.Nat{2}, api.Nat{2})},
		over(api.OpNot, len(nodes)+1), over(api.OpNot, -1), over(api.OpNot), over(api.OpTrue, 0), over(api.OpNot, realX), over(api.OpMul, realX, realY), over(api.OpDiv, two, realX),
	} {
		for _, place := range []int{bedNodes, bedNodes + 1, len(nodes)} {
			if term.Right(slices.Insert(slices.Clone(nodes), place, wrong), 2, 2) {
				t.Errorf("with %v at %d they are right", wrong, place)
			}
		}
	}
}

// Kids are elder nodes: none is over itself, or a younger one.
func TestP93Elder(t *testing.T) {
	nodes := []api.Node{over(api.OpTrue), over(api.OpNot, 0), over(api.OpAnd, 0, 1)}
	if !term.Right(nodes, 0, 0) {
		t.Error("they aren't right")
	}
	for _, kid := range []int{1, 2, 3} {
		if term.Right([]api.Node{nodes[0], over(api.OpNot, kid), nodes[2]}, 0, 0) {
			t.Errorf("over %d: right", kid)
		}
	}
	slices.Reverse(nodes)
	if term.Right(nodes, 0, 0) {
		t.Error("from behind they are right")
	}
}
