package cnf_test

import (
	"math"
	"slices"
	"testing"

	"steelyard/api"
)

// The places of numbers at the edge of a bench: the greatest one that fits, and the least that doesn't.
const (
	top = iota
	more
	one
	less // -1
	zero
	twice
	third
	half
	realX
	realY
	truthP
	edgeNodes
)

// edges gives those numbers, and unknowns, as nodes.
func edges(limbs int) []api.Node {
	most := 32 * uint(max(limbs, 1))
	list := []api.Node{number(power(most, -1)), number(power(most, 0))}
	for _, text := range []string{"1", "-1", "0", "2", "1/3", "1/2"} {
		list = append(list, number(value(text)))
	}
	return append(list, unknown(api.OpReal, 0), unknown(api.OpReal, 1), unknown(api.OpBool, 0))
}

// overCase is nodes behind the edges, and whether all fits.
type overCase struct {
	fits  bool
	nodes []api.Node
}

// sumCases gives sums that fit, and such that don't.
func sumCases() []overCase {
	add, sub, mul, div := api.OpAdd, api.OpSub, api.OpMul, api.OpDiv
	var list []overCase
	put := func(fits bool, op int, kids ...int) {
		list = append(list, overCase{fits, []api.Node{node(op, kids...)}})
	}
	put(false, add, top, one)
	put(true, add, top, less)
	put(true, add, top, zero)
	put(false, add, top, one, less)
	put(true, add, top, less, one)
	put(true, add, one, less, top)
	put(true, add, realX, top)
	// What is too great ahead may become less; but not what is added to it, nor what stays.
	put(true, add, more, less)
	put(false, add, less, more)
	put(false, add, more, zero)
	put(false, add, more, realX)
	put(false, add, more, realX, less)
	put(true, add, more, less, realX)
	put(true, sub, more, one)
	put(false, sub, one, more)
	put(false, sub, more, more)
	put(true, sub, top)
	put(false, sub, more)
	put(true, sub, top, one, less)
	put(false, sub, top, less, one)
	put(true, sub, zero, top)
	put(false, sub, zero, top, one)
	put(false, mul, top, twice)
	put(true, mul, top, half, twice)
	put(false, mul, top, twice, half)
	put(true, mul, more, half)
	put(true, mul, half, more)
	put(false, mul, more, one)
	put(true, mul, more, zero)
	put(true, mul, zero, more, more)
	put(false, mul, more, more, zero)
	put(true, mul, realX, top)
	put(false, mul, realX, top, twice)
	put(false, mul, realX, more)
	put(false, mul, more, realX)
	put(true, mul, realX, zero, more)
	put(true, mul, top, realX, half, twice)
	put(true, mul, half, top, realX, twice)
	put(false, mul, twice, top, realX, half)
	put(true, div, top, twice)
	put(false, div, top, half)
	put(false, div, top, half, twice)
	put(true, div, top, twice, half)
	put(true, div, more, twice)
	put(false, div, more, one)
	put(true, div, more, zero)
	put(true, div, one, top)
	put(false, div, one, more)
	put(false, div, zero, more)
	put(false, div, realX, more)
	put(true, div, realX, top)
	put(false, div, realX, top, twice)
	put(true, div, realX, zero, top)
	put(false, div, third, top)
	return list
}

// orderCases gives orders whose numbers fit, and such whose don't.
func orderCases() []overCase {
	at := edgeNodes
	return []overCase{
		{true, []api.Node{node(api.OpLess, realX, top)}},
		{true, []api.Node{node(api.OpLess, top, realX)}},
		{true, []api.Node{node(api.OpDistinct, realX, top, realY)}},
		{false, []api.Node{node(api.OpLess, realX, more)}},
		{false, []api.Node{node(api.OpLess, more, realX)}},
		{false, []api.Node{node(api.OpEqual, more, more)}},
		// The greater one less 1 fits.
		{true, []api.Node{node(api.OpGreater, one, more)}},
		{true, []api.Node{node(api.OpLess, more, one)}},
		{false, []api.Node{node(api.OpLess, one, more)}},
		{false, []api.Node{node(api.OpAtLeast, more, one)}},
		{false, []api.Node{node(api.OpEqual, more, one)}},
		{true, []api.Node{node(api.OpLess, top, top, zero)}},
		{false, []api.Node{node(api.OpLess, top, less)}},
		{true, []api.Node{node(api.OpAtMost, top, one)}},
		// An unknown that stands too often, if only on the way.
		{false, []api.Node{node(api.OpMul, top, realX), node(api.OpAdd, at, realX)}},
		{false, []api.Node{node(api.OpMul, top, realX), node(api.OpAdd, realX, realY, at)}},
		{false, []api.Node{node(api.OpMul, top, realX), node(api.OpSub, realX), node(api.OpSub, at, at+1, realX)}},
		{true, []api.Node{node(api.OpMul, top, realX), node(api.OpSub, at, realX)}},
		{true, []api.Node{node(api.OpMul, top, realX), node(api.OpSub, realX), node(api.OpSub, at, realX, at+1)}},
		{false, []api.Node{node(api.OpMul, top, realX), node(api.OpSub, realX), node(api.OpLess, at, at+1)}},
		// A bound that is too great: x through a half.
		{false, []api.Node{node(api.OpMul, half, realX), node(api.OpLess, at, top)}},
		{false, []api.Node{node(api.OpMul, top, realX), node(api.OpLess, at, third)}},
		{true, []api.Node{node(api.OpMul, top, realX), node(api.OpLess, at, top)}},
		// A row that is too great: y through the top, so many times.
		{false, []api.Node{node(api.OpMul, top, realX), node(api.OpMul, third, realY), node(api.OpAdd, at, at+1), node(api.OpLess, at+2, zero)}},
		{true, []api.Node{node(api.OpMul, top, realX), node(api.OpMul, third, realY), node(api.OpAdd, at, at+1)}},
		{true, []api.Node{node(api.OpMul, top, realX), node(api.OpAdd, at, realY), node(api.OpLess, at+1, zero)}},
		{true, []api.Node{node(api.OpIte, truthP, realX, top)}},
		{false, []api.Node{node(api.OpIte, truthP, realX, more)}},
		{false, []api.Node{node(api.OpIte, truthP, more, realX)}},
		{true, []api.Node{node(api.OpIte, truthP, top, third), node(api.OpLess, at, one)}},
	}
}

// What is reckoned is told to the bench, and nothing else: a number that merely stands there may be any.
func TestP131Over(t *testing.T) {
	for _, limbs := range []int{math.MinInt, -1, 0, 1, 2, 5} {
		s := api.Script{Bools: make([]string, 1), Reals: make([]string, 2), Nodes: edges(limbs)}
		built(t, s, limbs)
		for i, c := range slices.Concat(sumCases(), orderCases()) {
			s.Nodes = append(edges(limbs), c.nodes...)
			m := modelOf(s, limbs)
			if m.over == c.fits {
				t.Errorf("%d: the model is over: %v", i, m.over)
			}
			if c.fits {
				if p := built(t, s, limbs); show(p) != m.show() {
					t.Errorf("%d: %s, not %s", i, show(p), m.show())
				}
				continue
			}
			fails(t, s, limbs, api.ErrOver)
			// Whatever comes behind, and though nothing is asserted.
			s.Nodes = append(s.Nodes, node(api.OpNot, truthP), node(api.OpLess, realX, realY), node(api.OpAdd, one, one))
			fails(t, s, limbs, api.ErrOver)
			s.Asserts = []int{truthP}
			fails(t, s, limbs, api.ErrOver)
			s.Asserts = nil
		}
	}
}

// Where numbers become too great ahead of many nodes, nothing more is reckoned.
func TestP131OverSoon(t *testing.T) {
	nodes := []api.Node{number(value("3"))}
	for at := range 1000 {
		nodes = append(nodes, node(api.OpMul, at, at))
	}
	fails(t, api.Script{Nodes: nodes}, 100, api.ErrOver)
}
