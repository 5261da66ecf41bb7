package eval_test

import (
	"math"
	"math/rand/v2"
	"reflect"
	"slices"
	"testing"

	"steelyard/api"
	"steelyard/eval"
	"steelyard/nat"
	"steelyard/ratio"
	"steelyard/term"
)

// roomyRatio gives a number in memory of its own, with room behind its lists, that nobody may touch.
func roomyRatio(x api.Ratio) api.Ratio {
	num, den := append(slices.Clone(x.Num.Mag), 77, 77), append(slices.Clone(x.Den), 77, 77)
	x.Num.Mag, x.Den = num[:len(x.Num.Mag)], den[:len(x.Den)]
	return x
}

// roomy gives nodes and numbers in memory of their own, with room behind all lists.
func roomy(nodes []api.Node, reals []api.Ratio) ([]api.Node, []api.Ratio) {
	nodes, reals = slices.Clone(nodes), slices.Clone(reals)
	for i, n := range nodes {
		kids := append(slices.Clone(n.Kids), 77, 77)
		nodes[i].Kids, nodes[i].Number = kids[:len(n.Kids)], roomyRatio(n.Number)
	}
	for i, x := range reals {
		reals[i] = roomyRatio(x)
	}
	return nodes, reals
}

// untouched tells whether a number is as it was, with what is behind its lists.
func untouched(x, was api.Ratio) bool {
	num, den := x.Num.Mag, x.Den
	return sameRatio(x, was) && slices.Equal(num[len(num):len(num)+2], api.Nat{77, 77}) && slices.Equal(den[len(den):len(den)+2], api.Nat{77, 77})
}

// lists gives all lists of limbs of numbers, as they are in memory.
func lists(numbers []api.Ratio) []api.Nat {
	var all []api.Nat
	for _, x := range numbers {
		all = append(all, x.Num.Mag, x.Den)
	}
	return all
}

// spoil writes over all of the memory of lists.
func spoil(all []api.Nat) {
	for _, list := range all {
		list = list[:cap(list)]
		for i := range list {
			list[i] = 0xdead
		}
	}
}

// places gives where lists with elements are kept.
func places(all []api.Nat) []uintptr {
	var at []uintptr
	for _, list := range all {
		if len(list) > 0 {
			at = append(at, reflect.ValueOf(list).Pointer())
		}
	}
	return at
}

// someOfAll gives nodes of all operators, over those of a bed, with what they are.
func someOfAll() ([]api.Node, []api.Value) {
	nodes := bed()
	for _, op := range allOps() {
		nodes = append(nodes, example(op))
	}
	nodes = append(nodes, over(api.OpSub, realY), over(api.OpIte, boolQ, realX, realY), over(api.OpIte, boolP, minus, realY), number(made(true, api.Nat{1, 2, 3}, api.Nat{0, 1})),
		over(api.OpAdd, realY, zero), over(api.OpMul, realY, bedNodes+4), over(api.OpDiv, realY, two, two), over(api.OpEqual, realX, two), over(api.OpDistinct, realX, realY, minus, zero))
	return nodes, (&model{bools: bedBools(), reals: bedReals(), limbs: 8}).all(nodes)
}

// Rule 4: what is handed in isn't changed, and isn't kept; what is answered is new memory, and each list has its own.
func TestMemory(t *testing.T) {
	was, want := someOfAll()
	nodes, reals := roomy(was, bedReals())
	bools := bedBools()
	b := nat.New(8)
	first, code := eval.All(b, nodes, bools, reals)
	second, also := eval.All(b, nodes, bools, reals)
	if is, other := eval.True(b, api.Script{Nodes: nodes, Asserts: []int{boolP}}, bools, reals); code != api.OK || also != api.OK || !is || other != api.OK {
		t.Fatalf("%v, %v, %v, %v", code, also, is, other)
	}
	var in, out []api.Ratio
	for i, n := range nodes {
		if !slices.Equal(n.Kids[:len(n.Kids)+2], append(slices.Clone(was[i].Kids), 77, 77)) || !untouched(n.Number, was[i].Number) || n.Op != was[i].Op || n.Var != was[i].Var {
			t.Errorf("%v is changed", was[i])
		}
		in = append(in, n.Number)
	}
	for i, x := range reals {
		if !untouched(x, bedReals()[i]) {
			t.Errorf("the unknown %d is changed", i)
		}
		in = append(in, x)
	}
	if !slices.Equal(bools, bedBools()) {
		t.Error("truths are changed")
	}
	for i := range first {
		out = append(out, first[i].Number, second[i].Number)
	}
	at := places(slices.Concat(lists(in), lists(out)))
	size := len(at)
	slices.Sort(at)
	if len(slices.Compact(at)) != size {
		t.Error("two lists share memory")
	}
	spoil(lists(in))
	for i := range second {
		spoil(lists([]api.Ratio{second[i].Number}))
	}
	clear(second[:cap(second)])
	clear(bools)
	if !slices.EqualFunc(first, want, same) {
		t.Errorf("%v, not %v", first, want)
	}
}

// Rule 3: a list without elements and a nil list are one.
func TestNoElements(t *testing.T) {
	none := made(false, api.Nat{}, api.Nat{})
	nodes := []api.Node{{Op: api.OpTrue, Kids: []int{}, Number: none}, {Op: api.OpReal, Number: none}, {Op: api.OpNumber, Number: none}, over(api.OpEqual, 1, 2), over(api.OpAdd, 1, 2), over(api.OpSub, 1), over(api.OpDiv, 1, 2), over(api.OpDistinct, 1, 2)}
	evals(t, 1, nodes, nil, []api.Ratio{none}, []api.Value{truth(true), {}, {}, truth(true), {}, {}, {}, {}})
	evals(t, 1, []api.Node{}, []bool{}, []api.Ratio{}, nil)
	tells(t, nat.New(1), api.Script{Nodes: []api.Node{}, Asserts: []int{}}, []bool{}, []api.Ratio{}, true, api.OK)
}

// Rule 7: with an error nothing changes; a bench that was over is so, and others aren't.
func TestErrorsChangeNothing(t *testing.T) {
	b := nat.New(1)
	fails(t, b, []api.Node{number(power(32, -1)), over(api.OpAdd, 0, 0), over(api.OpNot, 0)}, nil, nil, api.ErrArg)
	tells(t, b, api.Script{Nodes: bed(), Asserts: []int{99}}, bedBools(), bedReals(), false, api.ErrRange)
	if b.Over() || len(b.Add(nat.Of(2), nat.Of(3))) != 1 {
		t.Error("the bench is over")
	}
}

// someNumber gives a number in its one form, often a small one.
func someNumber(r *rand.Rand) api.Ratio {
	switch r.IntN(6) {
	case 0:
		x := ratio.Make(nat.New(4), r.IntN(2) == 0, nat.Of(r.Uint64()), nat.Of(r.Uint64N(1<<r.IntN(60))))
		return x
	case 1:
		return ratio.Make(nat.New(4), r.IntN(2) == 0, nat.Of(r.Uint64N(9)), nat.Of(1+r.Uint64N(6)))
	}
	return ratio.Of(r.Int64N(7) - 3)
}

// someNode gives a node over those of terms, that often is right.
func someNode(r *rand.Rand, t *term.Terms, size, bools, reals int) api.Node {
	n := api.Node{Op: 1 + r.IntN(21)}
	switch n.Op {
	case api.OpNumber:
		n.Number = someNumber(r)
	case api.OpBool:
		n.Var = r.IntN(bools + 1)
	case api.OpReal:
		n.Var = r.IntN(reals + 1)
	}
	if n.Op <= api.OpNumber || size == 0 {
		return n
	}
	many := 2 + r.IntN(3)
	switch {
	case n.Op == api.OpNot:
		many = 1
	case n.Op == api.OpIte:
		many = 3
	case n.Op == api.OpSub:
		many = 1 + r.IntN(4)
	}
	sort := 1 + r.IntN(2)
	for i := range many {
		want := sort
		if n.Op <= api.OpImplies || n.Op == api.OpIte && i == 0 {
			want = api.SortBool
		} else if n.Op >= api.OpLess {
			want = api.SortReal
		}
		kid := r.IntN(size)
		for range 9 {
			if t.Sort(kid) != want || n.Op >= api.OpMul && i > 0 && !t.Ground(kid) {
				kid = r.IntN(size)
			}
		}
		n.Kids = append(n.Kids, kid)
	}
	return n
}

// P2, P10.1 and P10.2: the same calls give the same answers; and those are the document's, whatever the nodes are.
func TestP2SameCalls(t *testing.T) {
	r := rand.New(rand.NewPCG(10, 1))
	seen := map[api.Errno]int{}
	truths := 0
	for range 6000 {
		var bools []bool
		var reals []api.Ratio
		for range 1 + r.IntN(3) {
			bools, reals = append(bools, r.IntN(2) == 0), append(reals, someNumber(r))
		}
		terms := term.New(len(bools), len(reals))
		size := 0
		for range 5 + r.IntN(60) {
			if _, code := terms.Add(someNode(r, terms, size, len(bools), len(reals))); code == api.OK {
				size++
			}
		}
		s := api.Script{Nodes: terms.Nodes()}
		for range r.IntN(4) {
			s.Asserts = append(s.Asserts, r.IntN(size+1))
		}
		limbs := 1 + r.IntN(4)
		m := &model{bools: bools, reals: reals, limbs: limbs}
		want, code := m.all(s.Nodes), api.OK
		if m.over {
			want, code = nil, api.ErrOver
		}
		for range 2 {
			b := nat.New(limbs)
			if got, other := eval.All(b, s.Nodes, bools, reals); other != code || !slices.EqualFunc(got, want, same) || b.Over() != m.over {
				t.Fatalf("%v: %v, %v; not %v, %v", s.Nodes, got, other, want, code)
			}
		}
		is := code == api.OK
		for _, at := range s.Asserts {
			if code == api.OK && terms.Sort(at) != api.SortBool {
				code = api.ErrRange
			}
			is = is && at < size && m.truths[at]
		}
		is = is && code == api.OK
		tells(t, nat.New(limbs), s, bools, reals, is, code)
		tells(t, nat.New(limbs), s, bools, reals, is, code)
		seen[code]++
		truths += count([]bool{is})
	}
	if seen[api.OK] < 1000 || seen[api.ErrOver] < 500 || seen[api.ErrRange] < 500 || truths < 500 {
		t.Errorf("%v, %d are true", seen, truths)
	}
}

// P1: no call panics, whatever the arguments are.
func TestP1NoCallPanics(t *testing.T) {
	defer func() {
		if e := recover(); e != nil {
			t.Errorf("a call panics: %v", e)
		}
	}()
	edges := []int{math.MinInt, -1, 0, 1, 2, 3, 22, 1 << 20, 1 << 32, math.MaxInt}
	numbers := append(oddRatios(), rightRatios()...)
	for i, a := range edges {
		for j, c := range edges {
			for _, op := range append(slices.Clone(edges), allOps()...) {
				for _, kids := range [][]int{nil, {a}, {a, c}, {0, 0}, {0, a, c}, {1, 0, 0, c}, {2, 2}, {0, 2, 2}} {
					for _, behind := range [][]api.Node{nil, bed()} {
						nodes := append(behind, api.Node{Op: op, Var: c, Kids: kids, Number: numbers[(i+j)%len(numbers)]}, over(op, kids...), unknown(op, a))
						b := nat.New(a)
						eval.All(b, nodes, bedBools(), bedReals())
						eval.All(b, nodes[:len(nodes)-2], bedBools()[:i%3], numbers[:j])
						eval.True(b, api.Script{Nodes: nodes[:len(behind)], Asserts: []int{a, c}}, bedBools(), bedReals())
						eval.True(b, api.Script{Nodes: nodes, Asserts: kids}, bedBools(), bedReals())
					}
				}
			}
		}
	}
}
