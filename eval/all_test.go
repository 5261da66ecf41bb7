package eval_test

import (
	"math"
	"slices"
	"testing"

	"steelyard/api"
	"steelyard/eval"
	"steelyard/nat"
	"steelyard/ratio"
)

func TestP101Example(t *testing.T) {
	nodes := []api.Node{number(ratio.Of(1)), number(ratio.Of(2)), number(ratio.Of(3)), over(api.OpLess, 0, 1, 2)}
	evals(t, 1, nodes, nil, nil, []api.Value{worth("1"), worth("2"), worth("3"), truth(true)})
}

func TestP101NoKids(t *testing.T) {
	evals(t, 1, nil, nil, nil, nil)
	evals(t, 1, nil, bedBools(), bedReals(), nil)
	onBed(t, nil)
	for _, x := range rightRatios() {
		evals(t, 8, []api.Node{number(x), unknown(api.OpReal, 1), unknown(api.OpReal, 0)}, nil, []api.Ratio{{}, x}, []api.Value{{Number: x}, {Number: x}, {}})
	}
	evals(t, 1, []api.Node{unknown(api.OpBool, 2), unknown(api.OpBool, 0), unknown(api.OpBool, 1)}, []bool{false, true, true}, nil, []api.Value{truth(true), {}, truth(true)})
}

// All lists of up to five truths.
func TestP101Truths(t *testing.T) {
	for size := 1; size <= 5; size++ {
		for bits := range 1 << size {
			var kids []int
			var list []bool
			for i := range size {
				is := bits>>i&1 == 1
				list = append(list, is)
				kids = append(kids, []int{boolQ, boolP}[bits>>i&1])
			}
			many := count(list)
			if size == 1 {
				onBed(t, []api.Node{over(api.OpNot, kids...)}, truth(many == 0))
				continue
			}
			first := slices.Index(list, false)
			onBed(t, []api.Node{
				over(api.OpAnd, kids...), over(api.OpOr, kids...), over(api.OpXor, kids...), over(api.OpImplies, kids...),
				over(api.OpEqual, kids...), over(api.OpDistinct, kids...),
			},
				truth(many == size), truth(many > 0), truth(many%2 == 1), truth(first != size-1),
				truth(many == 0 || many == size), truth(size == 2 && many == 1))
		}
	}
}

func TestP101Ite(t *testing.T) {
	onBed(t, []api.Node{
		over(api.OpIte, boolP, realX, two), over(api.OpIte, boolQ, realX, two), over(api.OpIte, allTrue, realY, realX), over(api.OpIte, allFalse, realY, zero),
		over(api.OpIte, boolP, boolQ, boolP), over(api.OpIte, boolQ, boolQ, boolP), over(api.OpIte, boolP, boolP, boolQ), over(api.OpIte, boolQ, boolP, boolQ),
		over(api.OpIte, bedNodes+5, bedNodes, bedNodes+2),
	}, worth("7"), worth("2"), worth("-3/2"), worth("0"), truth(false), truth(true), truth(true), truth(false), worth("7"))
}

// All lists of two to four of some numbers, among which are two that are one.
func TestP101Orders(t *testing.T) {
	nodes := []api.Node{number(read("-3/2")), unknown(api.OpReal, 0), number(read("-1/3")), number(ratio.Of(0)), number(read("2/7")), number(read("4294967296"))}
	reals := []api.Ratio{read("-3/2")}
	for size := 2; size <= 4; size++ {
		total := 1
		for range size {
			total *= len(nodes)
		}
		for code := range total {
			var kids []int
			for left := code; len(kids) < size; left /= len(nodes) {
				kids = append(kids, left%len(nodes))
			}
			list := slices.Clone(nodes)
			for op := api.OpEqual; op <= api.OpAtLeast; op++ {
				list = append(list, over(op, kids...))
			}
			evals(t, 2, list, nil, reals, (&model{reals: reals, limbs: 2}).all(list))
		}
	}
}

func TestP101OrdersOfWords(t *testing.T) {
	for _, c := range []struct {
		kids                                           []int
		equal, distinct, less, most, greater, leastOne bool
	}{
		{[]int{minus, realY, zero}, false, true, true, true, false, false},
		{[]int{realX, two, realY, minus}, false, true, false, false, true, true},
		{[]int{minus, minus, two}, false, false, false, true, false, false},
		{[]int{two, zero, zero}, false, false, false, false, false, true},
		{[]int{zero, zero, zero}, true, false, false, true, false, true},
		{[]int{two, minus, two}, false, false, false, false, false, false},
		{[]int{two, minus, zero}, false, true, false, false, false, false},
	} {
		onBed(t, []api.Node{
			over(api.OpEqual, c.kids...), over(api.OpDistinct, c.kids...), over(api.OpLess, c.kids...), over(api.OpAtMost, c.kids...), over(api.OpGreater, c.kids...), over(api.OpAtLeast, c.kids...),
		}, truth(c.equal), truth(c.distinct), truth(c.less), truth(c.most), truth(c.greater), truth(c.leastOne))
	}
}

func TestP101Reckoned(t *testing.T) {
	for _, c := range []struct {
		op   int
		kids []int
		want string
	}{
		{api.OpAdd, []int{realX, realY}, "11/2"}, {api.OpAdd, []int{realX, realY, realY, minus}, "1"}, {api.OpAdd, []int{two, two}, "4"}, {api.OpAdd, []int{zero, zero, zero}, "0"},
		{api.OpSub, []int{realX}, "-7"}, {api.OpSub, []int{realY}, "3/2"}, {api.OpSub, []int{zero}, "0"}, {api.OpSub, []int{realX, realY}, "17/2"}, {api.OpSub, []int{realX, two, minus, realX}, "1"}, {api.OpSub, []int{two, two}, "0"},
		{api.OpMul, []int{realY, minus}, "9/2"}, {api.OpMul, []int{two, realX, minus, two}, "-84"}, {api.OpMul, []int{realX, zero}, "0"}, {api.OpMul, []int{zero, two, realX}, "0"},
		{api.OpDiv, []int{realX, two}, "7/2"}, {api.OpDiv, []int{realY, minus, two}, "1/4"}, {api.OpDiv, []int{two, minus, minus}, "2/9"}, {api.OpDiv, []int{zero, two}, "0"},
		{api.OpDiv, []int{realX, zero}, "0"}, {api.OpDiv, []int{zero, zero}, "0"}, {api.OpDiv, []int{realX, zero, two}, "0"}, {api.OpDiv, []int{realX, two, zero}, "0"},
	} {
		onBed(t, []api.Node{over(c.op, c.kids...)}, worth(c.want))
	}
	// A quotient by what comes to 0.
	onBed(t, []api.Node{over(api.OpSub, two, two), over(api.OpDiv, realX, bedNodes), over(api.OpDiv, realX, two, bedNodes)}, worth("0"), worth("0"), worth("0"))
}

// Nodes are over nodes that are over nodes, and one may be a kid of many.
func TestP101Over(t *testing.T) {
	at := bedNodes
	onBed(t, []api.Node{
		over(api.OpAdd, realX, two), over(api.OpMul, at, two), over(api.OpSub, at+1, at, at), over(api.OpLess, at+2, at, at+1),
		over(api.OpIte, at+3, at+1, at), over(api.OpNot, at+3), over(api.OpEqual, at+5, boolQ, allFalse), over(api.OpXor, at+6, at+6, at+6),
	}, worth("9"), worth("18"), worth("0"), truth(true), worth("18"), truth(false), truth(true), truth(true))
}

// As many kids as there may be are looked at.
func TestP101ManyKids(t *testing.T) {
	const many = 60_000
	var nodes []api.Node
	var kids []int
	for i := range many {
		nodes = append(nodes, number(ratio.Of(int64(i*7919%many))))
		kids = append(kids, i)
	}
	sum := ratio.Of(many * (many - 1) / 2)
	last := func(more ...api.Node) []api.Value {
		values, code := eval.All(nat.New(2), slices.Concat(nodes, more), nil, nil)
		if code != api.OK || len(values) != many+len(more) {
			t.Fatalf("%d, %v", len(values), code)
		}
		return values[many:]
	}
	got := last(over(api.OpDistinct, kids...), over(api.OpAdd, kids...), over(api.OpEqual, kids...), over(api.OpLess, kids...))
	if !slices.EqualFunc(got, []api.Value{truth(true), {Number: sum}, {}, {}}, same) {
		t.Errorf("%v", got)
	}
	for _, place := range []int{0, 1, many / 2, many - 1} {
		twice := slices.Clone(kids)
		twice[place] = (place + many/3) % many
		if got := last(over(api.OpDistinct, twice...)); got[0].Truth {
			t.Errorf("one is there twice, at %d", place)
		}
	}
}

// What isn't right for the unknowns that are handed in.
func TestP101ErrArg(t *testing.T) {
	b := nat.New(8)
	for _, wrong := range []api.Node{
		over(0), over(22), over(-1), over(math.MaxInt), {Op: api.OpTrue, Var: 1}, {Op: api.OpFalse, Number: ratio.Of(1)}, number(made(false, api.Nat{2}, api.Nat{2})),
		unknown(api.OpBool, 2), unknown(api.OpBool, -1), unknown(api.OpReal, 2), unknown(api.OpReal, math.MinInt),
		over(api.OpNot, bedNodes+1), over(api.OpNot, -1), over(api.OpNot), over(api.OpTrue, 0), over(api.OpIte, boolP, boolQ), over(api.OpNot, realX), over(api.OpAdd, realX, boolP), over(api.OpIte, boolP, boolP, realX),
		over(api.OpMul, realX, realY), over(api.OpDiv, two, realX), over(api.OpAnd, boolP), over(api.OpAdd, two),
	} {
		fails(t, b, append(bed(), wrong), bedBools(), bedReals(), api.ErrArg)
		fails(t, b, slices.Insert(bed(), 4, wrong), bedBools(), bedReals(), api.ErrArg)
	}
	fails(t, b, bed(), bedBools()[:1], bedReals(), api.ErrArg)
	fails(t, b, bed(), bedBools(), bedReals()[:1], api.ErrArg)
	fails(t, b, bed(), nil, bedReals(), api.ErrArg)
	fails(t, b, bed(), bedBools(), nil, api.ErrArg)
	fails(t, b, bed(), bedBools(), make([]api.Ratio, 1), api.ErrArg)
	evals(t, 8, bed(), append(bedBools(), true), append(bedReals(), ratio.Of(9)), bedValues())
}

// Each number must be in its one form, though no node is that unknown.
func TestP101OneForm(t *testing.T) {
	b := nat.New(8)
	for _, x := range oddRatios() {
		for place := range 3 {
			reals := append(bedReals(), ratio.Of(4))
			reals[place] = x
			fails(t, b, bed(), bedBools(), reals, api.ErrArg)
			fails(t, b, nil, nil, reals, api.ErrArg)
		}
	}
}

// Nodes or numbers that are wrong are told ahead of a bench that is over.
func TestP101Order(t *testing.T) {
	b := overBench(t, 2)
	fails(t, b, nil, nil, nil, api.ErrOver)
	fails(t, b, bed(), bedBools(), bedReals(), api.ErrOver)
	fails(t, b, bed(), nil, bedReals(), api.ErrArg)
	fails(t, b, nil, nil, oddRatios()[:1], api.ErrArg)
	great := []api.Node{number(power(63, 0)), over(api.OpMul, 0, 0)}
	fails(t, nat.New(2), great, nil, nil, api.ErrOver)
	fails(t, nat.New(2), append(great, over(api.OpNot, 0)), nil, nil, api.ErrArg)
	fails(t, nat.New(2), great, nil, oddRatios()[:1], api.ErrArg)
}

func TestP101BenchOver(t *testing.T) {
	for _, limbs := range []int{math.MinInt, -1, 0, 1, 2, 5} {
		most := 32 * uint(max(limbs, 1))
		nodes := []api.Node{number(power(most, -1)), number(ratio.Of(1)), number(ratio.Of(-1)), number(ratio.Of(2)), number(power(most, 0)), number(read("1/3")), number(ratio.Of(0)), number(read("1/2"))}
		const top, one, less, twice, more, third, none, half = 0, 1, 2, 3, 4, 5, 6, 7
		for i, c := range []struct {
			n    api.Node
			fits bool
		}{
			{over(api.OpAdd, top, one), false}, {over(api.OpAdd, top, less), true}, {over(api.OpAdd, top, one, less), false}, {over(api.OpAdd, top, less, one), true}, {over(api.OpAdd, one, less, top), true},
			{over(api.OpAdd, more, less), true}, {over(api.OpAdd, more, none), false}, {over(api.OpAdd, none, more, less), false},
			{over(api.OpSub, top, less), false}, {over(api.OpSub, top, one, less), true}, {over(api.OpSub, top, less, one), false}, {over(api.OpSub, more, more), true}, {over(api.OpSub, none, more, less), false}, {over(api.OpSub, none, top, one), false},
			{over(api.OpSub, more), true}, {over(api.OpSub, top), true},
			{over(api.OpMul, top, twice), false}, {over(api.OpMul, top, twice, half), false}, {over(api.OpMul, top, half, twice), true}, {over(api.OpMul, top, top, none), false}, {over(api.OpMul, none, top, top), true}, {over(api.OpMul, more, half), true},
			{over(api.OpDiv, top, half), false}, {over(api.OpDiv, top, half, twice), false}, {over(api.OpDiv, top, twice, half), true}, {over(api.OpDiv, one, top, third), true}, {over(api.OpDiv, one, top, twice), false}, {over(api.OpDiv, top, half, none), false}, {over(api.OpDiv, top, none, half), true},
			{over(api.OpDiv, more, none), true}, {over(api.OpDiv, more, one), false}, {over(api.OpDiv, more, twice), true}, {over(api.OpDiv, one, more), false},
			// No sum, no product, no quotient: what is there already isn't bounded.
			{over(api.OpLess, top, more), true}, {over(api.OpEqual, more, more), true}, {over(api.OpDistinct, more, top, third), true}, {over(api.OpAtLeast, more, third), true},
		} {
			list := append(slices.Clone(nodes), c.n)
			if c.fits {
				evals(t, limbs, list, nil, nil, (&model{limbs: max(limbs, 1)}).all(list))
				continue
			}
			for _, behind := range []int{0, 1, 3} {
				fails(t, nat.New(limbs), append(list, slices.Repeat([]api.Node{over(api.OpTrue), over(api.OpAdd, less, one)}, behind)...), nil, nil, api.ErrOver)
			}
			if m := (&model{limbs: max(limbs, 1)}); len(m.all(list)) == 0 || !m.over {
				t.Errorf("%d of %d limbs: the model fits", i, limbs)
			}
		}
	}
}

// Where numbers become too great behind many nodes, nothing more is reckoned.
func TestP101OverSoon(t *testing.T) {
	nodes := []api.Node{number(ratio.Of(3))}
	for at := range 1000 {
		nodes = append(nodes, over(api.OpMul, at, at))
	}
	fails(t, nat.New(100), nodes, nil, nil, api.ErrOver)
}

// What isn't chosen is reckoned all the same.
func TestP101OverUnchosen(t *testing.T) {
	nodes := []api.Node{number(power(32, -1)), over(api.OpAdd, 0, 0), over(api.OpTrue), over(api.OpIte, 2, 0, 1)}
	fails(t, nat.New(1), nodes, nil, nil, api.ErrOver)
	nodes = []api.Node{number(power(32, -1)), over(api.OpFalse), number(power(95, 1)), over(api.OpIte, 1, 0, 2)}
	evals(t, 1, nodes, nil, nil, []api.Value{{Number: power(32, -1)}, {}, {Number: power(95, 1)}, {Number: power(95, 1)}})
}
