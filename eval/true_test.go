package eval_test

import (
	"math"
	"slices"
	"testing"

	"steelyard/api"
	"steelyard/eval"
	"steelyard/nat"
	"steelyard/ratio"
)

// tells tells an error, if a script isn't answered so.
func tells(t *testing.T, b *nat.Bench, s api.Script, bools []bool, reals []api.Ratio, want bool, code api.Errno) {
	t.Helper()
	if got, other := eval.True(b, s, bools, reals); got != want || other != code {
		t.Errorf("%v: %v, %v; not %v, %v", s, got, other, want, code)
	}
}

// onScript tells an error, if nodes at places of a bed, and of some behind it, aren't answered so.
func onScript(t *testing.T, asserts []int, want bool, code api.Errno) {
	t.Helper()
	at := bedNodes
	s := api.Script{Nodes: append(bed(),
		over(api.OpIte, boolP, boolP, boolQ), over(api.OpIte, boolP, realX, two), over(api.OpLess, minus, two), over(api.OpDistinct, two, two),
		over(api.OpIte, at+2, at, at+3), over(api.OpIte, at+2, at+1, realY), over(api.OpAdd, two, two)), Asserts: asserts}
	tells(t, nat.New(8), s, bedBools(), bedReals(), want, code)
}

func TestP102True(t *testing.T) {
	at := bedNodes
	for _, asserts := range [][]int{nil, {}, {boolP}, {allTrue}, {at}, {at + 2}, {at + 4}, {at + 4, at + 2, at, allTrue, boolP}, {boolP, boolP, boolP}} {
		onScript(t, asserts, true, api.OK)
		for _, no := range []int{boolQ, allFalse, at + 3} {
			for place := range len(asserts) + 1 {
				onScript(t, slices.Insert(slices.Clone(asserts), place, no), false, api.OK)
			}
		}
	}
}

func TestP102Range(t *testing.T) {
	at := bedNodes
	for _, wrong := range []int{-1, math.MinInt, math.MaxInt, at + 7, at + 8, 1 << 32, -1 << 32, 1 << 20, realX, realY, two, zero, at + 1, at + 5, at + 6} {
		for _, asserts := range [][]int{{}, {boolP}, {boolQ}, {boolQ, boolP, at + 3}} {
			for place := range len(asserts) + 1 {
				onScript(t, slices.Insert(slices.Clone(asserts), place, wrong), false, api.ErrRange)
			}
		}
	}
	tells(t, nat.New(1), api.Script{Asserts: []int{0}}, nil, nil, false, api.ErrRange)
	tells(t, nat.New(1), api.Script{}, nil, nil, true, api.OK)
}

// The errors of All are told ahead of a place that is wrong.
func TestP102Errors(t *testing.T) {
	s := api.Script{Nodes: bed(), Asserts: []int{boolP}}
	great := api.Script{Nodes: []api.Node{number(power(32, -1)), over(api.OpAdd, 0, 0), over(api.OpTrue)}, Asserts: []int{2}}
	for _, asserts := range [][]int{nil, {2}, {0}, {-1}, {99}} {
		s.Asserts, great.Asserts = asserts, asserts
		tells(t, nat.New(8), s, bedBools()[:1], bedReals(), false, api.ErrArg)
		tells(t, nat.New(8), s, bedBools(), nil, false, api.ErrArg)
		tells(t, nat.New(8), s, bedBools(), oddRatios(), false, api.ErrArg)
		tells(t, overBench(t, 8), s, bedBools(), nil, false, api.ErrArg)
		tells(t, overBench(t, 8), s, bedBools(), bedReals(), false, api.ErrOver)
		tells(t, nat.New(1), great, nil, nil, false, api.ErrOver)
	}
	great.Asserts = []int{2}
	tells(t, nat.New(2), great, nil, nil, true, api.OK)
}

// Of a script the nodes and the places count alone: how many unknowns there are is told by what is handed in.
func TestP102OtherFields(t *testing.T) {
	for _, s := range []api.Script{
		{}, {Bools: []string{"p"}}, {Reals: []string{"x", "y", "z"}, Check: true}, {Bools: []string{"p", "q"}, Reals: []string{"x", "y"}, Check: true, Model: true}, {Model: true},
	} {
		s.Nodes, s.Asserts = bed(), []int{boolP, allTrue}
		tells(t, nat.New(1), s, bedBools(), bedReals(), true, api.OK)
		s.Asserts = []int{boolQ}
		tells(t, nat.New(1), s, bedBools(), bedReals(), false, api.OK)
	}
}

// What the unknowns are tells whether it is true.
func TestP102Unknowns(t *testing.T) {
	s := api.Script{Nodes: []api.Node{unknown(api.OpReal, 0), unknown(api.OpReal, 1), over(api.OpLess, 0, 1), unknown(api.OpBool, 0), over(api.OpXor, 2, 3)}, Asserts: []int{4}}
	for x := range int64(3) {
		for y := range int64(3) {
			for _, p := range []bool{false, true} {
				tells(t, nat.New(1), s, []bool{p}, []api.Ratio{ratio.Of(x), ratio.Of(y)}, (x < y) != p, api.OK)
			}
		}
	}
}

// All nodes are looked at, as many as there may be.
func TestP102Greatest(t *testing.T) {
	nodes := []api.Node{over(api.OpTrue), over(api.OpFalse)}
	for len(nodes) < api.MaxNodes {
		nodes = append(nodes, over(api.OpIte, 0, len(nodes)-2, len(nodes)-1))
	}
	last := api.MaxNodes - 1
	tells(t, nat.New(1), api.Script{Nodes: nodes, Asserts: []int{last - 1}}, nil, nil, true, api.OK)
	tells(t, nat.New(1), api.Script{Nodes: nodes, Asserts: []int{last - 1, last}}, nil, nil, false, api.OK)
	tells(t, nat.New(1), api.Script{Nodes: nodes, Asserts: []int{last + 1}}, nil, nil, false, api.ErrRange)
	tells(t, nat.New(1), api.Script{Nodes: append(nodes, over(api.OpTrue))}, nil, nil, false, api.ErrArg)
}
