package term_test

import (
	"math"
	"testing"

	"steelyard/api"
	"steelyard/term"
)

// hasUnknowns tells an error, if there aren't so many unknowns of a sort.
func hasUnknowns(t *testing.T, x *term.Terms, op, count int) {
	t.Helper()
	for _, v := range []int{math.MinInt, -2, -1, 0, 1, 2, 3, 4, 5, count - 1, 1 << 32, math.MaxInt - 1, math.MaxInt} {
		at := len(x.Nodes())
		if v >= 0 && v < count {
			adds(t, x, unknown(op, v), at)
		} else if got, code := x.Add(unknown(op, v)); got != 0 || code != api.ErrArg {
			t.Errorf("the unknown %d of %d: at %d, %v", v, count, got, code)
		}
	}
}

func TestP91New(t *testing.T) {
	for _, bools := range []int{math.MinInt, -1, 0, 1, 2, 4, math.MaxInt} {
		for _, reals := range []int{math.MinInt, -1, 0, 1, 3, math.MaxInt} {
			x := term.New(bools, reals)
			holds(t, x, nil)
			if x.Sort(0) != 0 || x.Ground(0) {
				t.Error("there is a node already")
			}
			hasUnknowns(t, x, api.OpBool, bools)
			hasUnknowns(t, x, api.OpReal, reals)
		}
	}
}

func TestP91Grow(t *testing.T) {
	for _, first := range []int{math.MinInt, -1, 0, 1, 3} {
		for _, sort := range []int{api.SortBool, api.SortReal} {
			x := term.New(first, first)
			op, other := api.OpBool, api.OpReal
			if sort == api.SortReal {
				op, other = other, op
			}
			for more := range 3 {
				want := max(first, 0) + more
				hasUnknowns(t, x, op, want)
				if v := x.Grow(sort); v != want {
					t.Errorf("of %d and %d more: %d", first, more, v)
				}
				hasUnknowns(t, x, op, want+1)
			}
			hasUnknowns(t, x, other, first)
		}
	}
}

// Of no other sort there is one more.
func TestP91GrowOthers(t *testing.T) {
	x := term.New(1, 2)
	for _, sort := range []int{0, 3, -1, -2, 1 << 32, 1<<32 + 1, 1<<8 + 2, math.MinInt, math.MaxInt} {
		if v := x.Grow(sort); v != -1 {
			t.Errorf("of the sort %d: %d", sort, v)
		}
	}
	holds(t, x, nil)
	if b, r := x.Grow(api.SortBool), x.Grow(api.SortReal); b != 1 || r != 2 {
		t.Errorf("%d and %d", b, r)
	}
}

// No number is left behind the greatest one.
func TestP91GrowGreatest(t *testing.T) {
	x := term.New(math.MaxInt, 0)
	if v := x.Grow(api.SortBool); v != math.MaxInt {
		t.Errorf("%d", v)
	}
	adds(t, x, unknown(api.OpBool, math.MaxInt), 0)
	for range 2 {
		if v := x.Grow(api.SortBool); v != -1 {
			t.Errorf("%d", v)
		}
	}
	adds(t, x, unknown(api.OpBool, 0), 1)
	adds(t, x, unknown(api.OpBool, math.MaxInt), 2)
	if v := x.Grow(api.SortReal); v != 0 {
		t.Errorf("%d", v)
	}
}

func TestP91Nodes(t *testing.T) {
	x := term.New(1, 1)
	var want []api.Node
	for _, n := range []api.Node{
		unknown(api.OpBool, 0), unknown(api.OpReal, 0), number(0), {Op: api.OpNumber, Number: made(true, api.Nat{1, 2}, api.Nat{3, 5})}, over(api.OpTrue), over(api.OpFalse),
		over(api.OpNot, 0), over(api.OpAnd, 6, 0, 4, 0), over(api.OpIte, 7, 3, 1), over(api.OpLess, 8, 3, 1), over(api.OpTrue),
	} {
		adds(t, x, n, len(want))
		want = append(want, n)
		holds(t, x, want)
		fails(t, x, over(api.OpNot, len(want)), api.ErrRange)
		x.Grow(api.SortReal)
	}
	holds(t, x, want)
}

func TestP91SortGround(t *testing.T) {
	x := bed(t)
	for at, want := range [bedNodes]struct {
		sort   int
		ground bool
	}{
		boolP: {api.SortBool, false}, boolQ: {api.SortBool, false}, realX: {api.SortReal, false}, realY: {api.SortReal, false},
		two: {api.SortReal, true}, seven: {api.SortReal, true}, allTrue: {api.SortBool, false}, twoLessSeven: {api.SortReal, true},
		xOrTwo: {api.SortReal, false}, twoOrSeven: {api.SortReal, false}, twoX: {api.SortReal, false},
	} {
		if x.Sort(at) != want.sort || x.Ground(at) != want.ground {
			t.Errorf("%d: %d, %v; not %v", at, x.Sort(at), x.Ground(at), want)
		}
	}
	for _, at := range farPlaces() {
		if x.Sort(at) != 0 || x.Ground(at) {
			t.Errorf("there is no node %d: %d, %v", at, x.Sort(at), x.Ground(at))
		}
	}
}

// The sort of each operator's nodes.
func TestP91Sorts(t *testing.T) {
	truth := []int{
		api.OpTrue, api.OpFalse, api.OpBool, api.OpNot, api.OpAnd, api.OpOr, api.OpXor, api.OpImplies, api.OpEqual, api.OpDistinct,
		api.OpLess, api.OpAtMost, api.OpGreater, api.OpAtLeast,
	}
	want := map[int]int{}
	for _, op := range truth {
		want[op] = api.SortBool
	}
	for _, op := range []int{api.OpReal, api.OpNumber, api.OpIte, api.OpAdd, api.OpSub, api.OpMul, api.OpDiv} {
		want[op] = api.SortReal
	}
	if len(want) != 21 {
		t.Fatalf("%d operators", len(want))
	}
	for op, sort := range want {
		x := bed(t)
		adds(t, x, example(op), bedNodes)
		if got := x.Sort(bedNodes); got != sort {
			t.Errorf("%d: %d, not %d", op, got, sort)
		}
	}
	x := bed(t)
	adds(t, x, over(api.OpIte, boolP, boolQ, boolP), bedNodes)
	adds(t, x, over(api.OpEqual, boolP, boolQ), bedNodes+1)
	if x.Sort(bedNodes) != api.SortBool || x.Sort(bedNodes+1) != api.SortBool {
		t.Error("OpIte or OpEqual of truths")
	}
}

// A node is ground just if it is a number, or reckoned of ground ones by +, -, * or /.
func TestP91Ground(t *testing.T) {
	for _, op := range allOps() {
		x := bed(t)
		n := example(op)
		if op >= api.OpLess {
			n.Kids = []int{two, twoLessSeven, seven}
		}
		adds(t, x, n, bedNodes)
		if x.Ground(bedNodes) != (op == api.OpNumber || op >= api.OpAdd) {
			t.Errorf("%d over ground ones: %v", op, x.Ground(bedNodes))
		}
	}
	// One kid that isn't is enough, wherever it is.
	for _, op := range []int{api.OpAdd, api.OpSub, api.OpMul, api.OpDiv} {
		for _, loose := range []int{realX, xOrTwo, twoOrSeven, twoX} {
			for place := range 3 {
				if op == api.OpDiv && place > 0 {
					continue
				}
				kids := []int{two, twoLessSeven, seven}
				kids[place] = loose
				x := bed(t)
				adds(t, x, over(op, kids...), bedNodes)
				adds(t, x, over(api.OpAdd, two, bedNodes), bedNodes+1)
				if x.Ground(bedNodes) || x.Ground(bedNodes+1) {
					t.Errorf("%d over %v is ground", op, kids)
				}
			}
		}
	}
	x := bed(t)
	adds(t, x, over(api.OpSub, two), bedNodes)
	adds(t, x, over(api.OpSub, realX), bedNodes+1)
	adds(t, x, over(api.OpIte, boolP, two, two), bedNodes+2)
	if !x.Ground(bedNodes) || x.Ground(bedNodes+1) || x.Ground(bedNodes+2) {
		t.Error("OpSub of one, or OpIte")
	}
}
