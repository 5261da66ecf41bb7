package term_test

import (
	"math"
	"testing"

	"steelyard/api"
	"steelyard/ratio"
	"steelyard/term"
)

func TestP92Example(t *testing.T) {
	onBed(t, over(api.OpMul, realX, realY), api.ErrLine)
}

func TestP92Operators(t *testing.T) {
	for _, op := range allOps() {
		onBed(t, example(op), api.OK)
	}
	for _, op := range []int{0, 22, 23, -1, -21, 256 + api.OpTrue, 1<<32 + api.OpAdd, math.MinInt, math.MaxInt} {
		for _, n := range []api.Node{over(op), over(op, boolP), over(op, realX, two), over(op, -1), {Op: op, Var: 1}, {Op: op, Number: ratio.Of(1)}} {
			onBed(t, n, api.ErrArg)
		}
	}
}

func TestP92Var(t *testing.T) {
	for _, op := range allOps() {
		for _, v := range []int{math.MinInt, -1, 0, 1, 2, 3, 1 << 32, math.MaxInt} {
			n, want := example(op), api.ErrArg
			n.Var = v
			if v == 0 || v == 1 && (op == api.OpBool || op == api.OpReal) {
				want = api.OK
			}
			onBed(t, n, want)
		}
	}
}

// Each sort has unknowns of its own.
func TestP92Unknowns(t *testing.T) {
	x := term.New(3, 1)
	adds(t, x, unknown(api.OpBool, 2), 0)
	fails(t, x, unknown(api.OpReal, 2), api.ErrArg)
	fails(t, x, unknown(api.OpReal, 1), api.ErrArg)
	fails(t, x, unknown(api.OpBool, 3), api.ErrArg)
	x.Grow(api.SortReal)
	adds(t, x, unknown(api.OpReal, 1), 1)
	fails(t, x, unknown(api.OpBool, 3), api.ErrArg)
	x.Grow(api.SortBool)
	adds(t, x, unknown(api.OpBool, 3), 2)
	fails(t, x, unknown(api.OpReal, 2), api.ErrArg)
}

func TestP92Number(t *testing.T) {
	zero := made(false, api.Nat{}, api.Nat{})
	for _, op := range allOps() {
		n := example(op)
		n.Number = zero
		onBed(t, n, api.OK)
		for _, x := range oddRatios() {
			n.Number = x
			onBed(t, n, api.ErrArg)
		}
		for _, x := range rightRatios() {
			n.Number = x
			want := api.ErrArg
			if op == api.OpNumber || ratio.Sign(x) == 0 {
				want = api.OK
			}
			onBed(t, n, want)
		}
	}
	onBed(t, api.Node{Op: api.OpNumber, Var: 1, Number: ratio.Of(1)}, api.ErrArg)
}

// A place of no node is told of each kid, though there are too many, or of a wrong sort.
func TestP92Range(t *testing.T) {
	for _, op := range allOps() {
		for _, far := range farPlaces() {
			for _, kids := range [][]int{
				{far}, {far, far}, {far, boolP}, {boolP, far}, {realX, far, two}, {boolP, two, far}, {far, realX, realY}, {boolP, boolQ, boolP, far}, {two, far, boolP, two, two},
			} {
				n := example(op)
				n.Kids = kids
				onBed(t, n, api.ErrRange)
			}
		}
	}
	x := term.New(1, 1)
	fails(t, x, over(api.OpNot, 0), api.ErrRange)
	fails(t, x, over(api.OpTrue, 0), api.ErrRange)
	adds(t, x, over(api.OpTrue), 0)
	adds(t, x, over(api.OpNot, 0), 1)
	fails(t, x, over(api.OpNot, 2), api.ErrRange)
}

// Too few, or too many, are told ahead of their sorts.
func TestP92Count(t *testing.T) {
	most := map[int]int{api.OpNot: 1, api.OpIte: 3}
	least := map[int]int{api.OpNot: 1, api.OpIte: 3, api.OpSub: 1}
	for _, op := range allOps() {
		low, high := 2, math.MaxInt
		if op <= api.OpNumber {
			low, high = 0, 0
		}
		if n, ok := least[op]; ok {
			low = n
		}
		if n, ok := most[op]; ok {
			high = n
		}
		for count := range 9 {
			if count >= low && count <= high {
				continue
			}
			for _, kid := range []int{boolP, realX, two} {
				n := example(op)
				n.Kids = make([]int, count)
				for i := range n.Kids {
					n.Kids[i] = kid
				}
				onBed(t, n, api.ErrCount)
			}
		}
	}
}

// Operators over many kids are right, and each of these is looked at.
func TestP92ManyKids(t *testing.T) {
	for op := api.OpAnd; op <= api.OpDiv; op++ {
		if op == api.OpIte {
			continue
		}
		right, wrong := two, boolP
		if op <= api.OpImplies {
			right, wrong = boolP, two
		}
		kids := make([]int, 5000)
		for i := range kids {
			kids[i] = right
		}
		onBed(t, over(op, kids...), api.OK)
		for _, place := range []int{0, 1, 2500, 4998, 4999} {
			kids[place] = wrong
			onBed(t, over(op, kids...), api.ErrSort)
			kids[place] = right
		}
	}
}

// All lists of up to four kids that are truths, or ground numbers.
func TestP92Sort(t *testing.T) {
	for _, op := range allOps() {
		for count := range 5 {
			for bits := range 1 << count {
				var kids []int
				truths := 0
				for i := range count {
					if bits>>i&1 == 1 {
						kids = append(kids, boolQ)
						truths++
					} else {
						kids = append(kids, two)
					}
				}
				n := example(op)
				n.Kids = kids
				onBed(t, n, sortBy(op, bits, count, truths))
			}
		}
	}
}

// sortBy gives what a node is answered over so many kids, of which those with a bit 1 are truths, and the others numbers that are ground.
func sortBy(op, bits, count, truths int) api.Errno {
	numbers := count - truths
	var right, fit bool
	switch op {
	case api.OpTrue, api.OpFalse, api.OpBool, api.OpReal, api.OpNumber:
		fit, right = count == 0, true
	case api.OpNot:
		fit, right = count == 1, numbers == 0
	case api.OpAnd, api.OpOr, api.OpXor, api.OpImplies:
		fit, right = count >= 2, numbers == 0
	case api.OpIte:
		fit, right = count == 3, bits == 0b001 || bits == 0b111
	case api.OpEqual, api.OpDistinct:
		fit, right = count >= 2, numbers == 0 || truths == 0
	case api.OpSub:
		fit, right = count >= 1, truths == 0
	default:
		fit, right = count >= 2, truths == 0
	}
	switch {
	case !fit:
		return api.ErrCount
	case !right:
		return api.ErrSort
	}
	return api.OK
}

// All lists of two to five kids that are ground, or aren't.
func TestP92Line(t *testing.T) {
	ground, loose := []int{two, twoLessSeven, seven}, []int{realX, xOrTwo, twoOrSeven, twoX, realY}
	for count := 2; count <= 5; count++ {
		for bits := range 1 << count {
			var kids []int
			many := 0
			for i := range count {
				if bits>>i&1 == 1 {
					kids = append(kids, loose[(i+count)%len(loose)])
					many++
				} else {
					kids = append(kids, ground[i%len(ground)])
				}
			}
			want := map[int]api.Errno{}
			if many > 1 {
				want[api.OpMul] = api.ErrLine
			}
			if bits>>1 != 0 {
				want[api.OpDiv] = api.ErrLine
			}
			for _, op := range []int{api.OpLess, api.OpAtMost, api.OpGreater, api.OpAtLeast, api.OpAdd, api.OpSub, api.OpMul, api.OpDiv, api.OpEqual, api.OpDistinct} {
				onBed(t, over(op, kids...), want[op])
			}
		}
	}
	// One node that is there twice is two.
	onBed(t, over(api.OpMul, realX, realX), api.ErrLine)
	onBed(t, over(api.OpDiv, realX, realX), api.ErrLine)
	// A truth is a wrong sort, though it isn't ground either.
	onBed(t, over(api.OpMul, realX, realY, boolP), api.ErrSort)
	onBed(t, over(api.OpMul, boolP, realX), api.ErrSort)
	onBed(t, over(api.OpDiv, two, realX, boolP), api.ErrSort)
	onBed(t, over(api.OpDiv, boolP, two), api.ErrSort)
}

// Of a product that is ground, as of one that isn't, more can be made.
func TestP92LineOver(t *testing.T) {
	x := bed(t)
	adds(t, x, over(api.OpMul, two, seven, twoLessSeven), bedNodes)
	adds(t, x, over(api.OpDiv, realX, bedNodes, seven), bedNodes+1)
	adds(t, x, over(api.OpMul, bedNodes, bedNodes+1, bedNodes), bedNodes+2)
	if code := func() api.Errno { _, code := x.Add(over(api.OpMul, bedNodes+2, bedNodes+1)); return code }(); code != api.ErrLine {
		t.Errorf("%v", code)
	}
	adds(t, x, over(api.OpDiv, bedNodes, two), bedNodes+3)
	adds(t, x, over(api.OpDiv, bedNodes+2, bedNodes+3), bedNodes+4)
	if !x.Ground(bedNodes+3) || x.Ground(bedNodes+4) || x.Ground(bedNodes+1) || !x.Ground(bedNodes) {
		t.Error("Ground")
	}
}

// Of two errors the first one is told.
func TestP92Order(t *testing.T) {
	for _, c := range []struct {
		n    api.Node
		want api.Errno
	}{
		{api.Node{Op: 22, Kids: []int{99}}, api.ErrArg},
		{api.Node{Op: api.OpNot, Var: 1, Kids: []int{99}}, api.ErrArg},
		{api.Node{Op: api.OpBool, Var: 2, Kids: []int{99}}, api.ErrArg},
		{api.Node{Op: api.OpNumber, Number: made(true, nil, nil), Kids: []int{-1}}, api.ErrArg},
		{api.Node{Op: api.OpMul, Number: ratio.Of(1), Kids: []int{realX, realY}}, api.ErrArg},
		{api.Node{Op: api.OpAdd, Var: 1, Kids: []int{boolP, boolP}}, api.ErrArg},
		{api.Node{Op: api.OpAnd, Number: made(false, nil, api.Nat{2}), Kids: []int{boolP}}, api.ErrArg},
		{over(api.OpNot, boolP, 99), api.ErrRange},
		{over(api.OpTrue, 99), api.ErrRange},
		{over(api.OpAnd, realX, 99), api.ErrRange},
		{over(api.OpMul, realX, realY, 99), api.ErrRange},
		{over(api.OpNot, realX, realX), api.ErrCount},
		{over(api.OpMul, boolP), api.ErrCount},
		{over(api.OpDiv, boolP), api.ErrCount},
		{over(api.OpIte, realX, realX), api.ErrCount},
		{over(api.OpMul, realX, realY, boolP), api.ErrSort},
		{over(api.OpDiv, boolP, realX), api.ErrSort},
		{over(api.OpDiv, realX, realX), api.ErrLine},
	} {
		onBed(t, c.n, c.want)
	}
}

// fill adds nodes, as many as may be.
func fill(t *testing.T, x *term.Terms) {
	t.Helper()
	for at := bedNodes; at < api.MaxNodes; at++ {
		if got, code := x.Add(over(api.OpTrue)); got != at || code != api.OK {
			t.Fatalf("the node %d: at %d, %v", at, got, code)
		}
	}
}

func TestP92Space(t *testing.T) {
	x := bed(t)
	fill(t, x)
	full := func(n api.Node, want api.Errno) {
		t.Helper()
		for range 2 {
			if got, code := x.Add(n); got != 0 || code != want {
				t.Errorf("%v: at %d, %v; not %v", n, got, code, want)
			}
		}
	}
	for _, op := range allOps() {
		full(example(op), api.ErrSpace)
	}
	full(over(api.OpNot, api.MaxNodes-1), api.ErrSpace)
	// All other errors are told ahead of it.
	full(over(22), api.ErrArg)
	full(unknown(api.OpReal, 2), api.ErrArg)
	full(over(api.OpNot, api.MaxNodes), api.ErrRange)
	full(over(api.OpAnd, boolP), api.ErrCount)
	full(over(api.OpAnd, boolP, realX), api.ErrSort)
	full(over(api.OpMul, realY, realX), api.ErrLine)
	if v := x.Grow(api.SortReal); v != 2 {
		t.Errorf("%d", v)
	}
	full(unknown(api.OpReal, 2), api.ErrSpace)
	if x.Sort(api.MaxNodes-1) != api.SortBool || x.Sort(api.MaxNodes) != 0 || x.Sort(realX) != api.SortReal || !x.Ground(two) {
		t.Error("Sort or Ground")
	}
	nodes := x.Nodes()
	if len(nodes) != 1<<20 || !same(nodes[twoX], over(api.OpMul, two, realX)) || !same(nodes[len(nodes)-1], over(api.OpTrue)) {
		t.Errorf("%d nodes", len(nodes))
	}
	if !term.Right(nodes, 2, 2) || term.Right(append(nodes, over(api.OpTrue)), 2, 2) {
		t.Error("Right of as many nodes as may be, and of one more")
	}
}
