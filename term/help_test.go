package term_test

import (
	"math"
	"math/big"
	"slices"
	"testing"

	"steelyard/api"
	"steelyard/ratio"
	"steelyard/term"
)

// over gives a node of an operator over others.
func over(op int, kids ...int) api.Node { return api.Node{Op: op, Kids: kids} }

// unknown gives a node that is an unknown.
func unknown(op, v int) api.Node { return api.Node{Op: op, Var: v} }

// number gives a node that is an integer.
func number(n int64) api.Node { return api.Node{Op: api.OpNumber, Number: ratio.Of(n)} }

// made gives a ratio of its parts, as they are.
func made(neg bool, num, den api.Nat) api.Ratio {
	return api.Ratio{Num: api.Whole{Neg: neg, Mag: num}, Den: den}
}

// The places of a bed's nodes.
const (
	boolP = iota // of OpBool
	boolQ
	realX // of OpReal
	realY
	two // of OpNumber
	seven
	allTrue // of OpTrue
	twoLessSeven
	xOrTwo     // of OpIte
	twoOrSeven // of OpIte, over numbers that are ground
	twoX
	bedNodes
)

// bed gives terms with nodes of all kinds, over two unknowns of each sort.
func bed(t *testing.T) *term.Terms {
	t.Helper()
	x := term.New(2, 2)
	for at, n := range []api.Node{
		unknown(api.OpBool, 0), unknown(api.OpBool, 1), unknown(api.OpReal, 0), unknown(api.OpReal, 1), number(2), number(7), over(api.OpTrue),
		over(api.OpSub, two, seven), over(api.OpIte, boolP, realX, two), over(api.OpIte, allTrue, two, seven), over(api.OpMul, two, realX),
	} {
		adds(t, x, n, at)
	}
	return x
}

// adds tells an error, if a node isn't added at a place.
func adds(t *testing.T, x *term.Terms, n api.Node, at int) {
	t.Helper()
	if got, code := x.Add(n); got != at || code != api.OK {
		t.Errorf("%v: at %d, %v; not at %d", n, got, code, at)
	}
}

// fails tells an error, if a node isn't wrong so, or anything changes.
func fails(t *testing.T, x *term.Terms, n api.Node, want api.Errno) {
	t.Helper()
	before := x.Nodes()
	if got, code := x.Add(n); got != 0 || code != want {
		t.Errorf("%v: at %d, %v; not %v", n, got, code, want)
	}
	if x.Sort(len(before)) != 0 {
		t.Errorf("%v: it has a sort", n)
	}
	holds(t, x, before)
}

// onBed tells an error, if a node over those of a bed isn't answered so.
func onBed(t *testing.T, n api.Node, want api.Errno) {
	t.Helper()
	if x := bed(t); want == api.OK {
		adds(t, x, n, bedNodes)
	} else {
		fails(t, x, n, want)
	}
}

// allOps gives all operators.
func allOps() []int {
	var list []int
	for op := api.OpTrue; op <= api.OpDiv; op++ {
		list = append(list, op)
	}
	return list
}

// example gives a node of an operator over those of a bed, that is right.
func example(op int) api.Node {
	switch op {
	case api.OpTrue, api.OpFalse, api.OpBool, api.OpReal:
		return over(op)
	case api.OpNumber:
		return number(-3)
	case api.OpNot:
		return over(op, boolQ)
	case api.OpAnd, api.OpOr, api.OpXor, api.OpImplies:
		return over(op, boolP, boolQ)
	case api.OpIte:
		return over(op, boolP, realX, realY)
	case api.OpMul, api.OpDiv:
		return over(op, realX, two)
	}
	return over(op, realX, realY)
}

// same tells whether two nodes are one; lists that aren't there are one, nil or not.
func same(x, y api.Node) bool {
	return x.Op == y.Op && x.Var == y.Var && slices.Equal(x.Kids, y.Kids) && x.Number.Num.Neg == y.Number.Num.Neg &&
		slices.Equal(x.Number.Num.Mag, y.Number.Num.Mag) && slices.Equal(x.Number.Den, y.Number.Den)
}

// holds tells an error, if the nodes aren't these.
func holds(t *testing.T, x *term.Terms, want []api.Node) {
	t.Helper()
	if got := x.Nodes(); !slices.EqualFunc(got, want, same) {
		t.Errorf("%v, not %v", got, want)
	}
}

// oddRatios are ratios of all kinds that aren't in their one form.
func oddRatios() []api.Ratio {
	return []api.Ratio{
		// 0 below 0, and 0 through something
		made(true, nil, nil), made(false, nil, api.Nat{2}), made(true, nil, api.Nat{2}), made(false, nil, api.Nat{1}),
		// through 0, and through a 1 that is written out
		made(false, api.Nat{1}, api.Nat{0}), made(false, api.Nat{3}, api.Nat{1}), made(true, api.Nat{1}, api.Nat{1}), made(false, api.Nat{5}, api.Nat{0, 0}),
		// noughts at the end of limbs
		made(false, api.Nat{0}, nil), made(false, api.Nat{1, 0}, nil), made(false, api.Nat{1}, api.Nat{2, 0}), made(true, api.Nat{0, 0}, api.Nat{3}),
		// something divides both
		made(false, api.Nat{2}, api.Nat{2}), made(true, api.Nat{6}, api.Nat{4}), made(false, api.Nat{0, 1}, api.Nat{6}), made(false, api.Nat{7, 7}, api.Nat{3, 3}),
	}
}

// rightRatios are ratios of all kinds in their one form.
func rightRatios() []api.Ratio {
	return []api.Ratio{
		{}, made(false, api.Nat{}, api.Nat{}), ratio.Of(1), ratio.Of(-1), ratio.Of(math.MinInt64), ratio.Of(math.MaxInt64),
		made(false, api.Nat{1}, api.Nat{2}), made(true, api.Nat{2}, api.Nat{3}), made(true, api.Nat{0, 1}, api.Nat{3}), made(false, api.Nat{1}, api.Nat{0, 0, 1}), made(true, api.Nat{5}, api.Nat{}),
	}
}

// farPlaces are places at which no bed has a node.
func farPlaces() []int {
	return []int{-1, -2, math.MinInt, math.MaxInt, bedNodes, bedNodes + 1, 1 << 20, 1 << 32, -1 << 32}
}

// model is terms by the words of the document: how many unknowns there are, and what sort of each node is, and which ones are ground.
type model struct {
	bools, reals int
	sorts        []int
	ground       []bool
}

// isOneForm tells whether a ratio is in its one form, by the words of the document.
func isOneForm(x api.Ratio) bool {
	num, den := x.Num.Mag, x.Den
	for _, part := range []api.Nat{num, den} {
		if len(part) > 0 && part[len(part)-1] == 0 {
			return false
		}
	}
	if len(num) == 0 {
		return !x.Num.Neg && len(den) == 0
	}
	if len(den) == 0 {
		return true
	}
	toInt := func(limbs api.Nat) *big.Int {
		n := new(big.Int)
		for _, limb := range slices.Backward(limbs) {
			n.Lsh(n, 32).Or(n, big.NewInt(int64(limb)))
		}
		return n
	}
	common := new(big.Int).GCD(nil, nil, toInt(num), toInt(den))
	return common.IsInt64() && common.Int64() == 1 && !slices.Equal(den, api.Nat{1})
}

// argument tells whether the operator, the unknown and the number of a node are right.
func (m *model) argument(n api.Node) bool {
	zero := !n.Number.Num.Neg && len(n.Number.Num.Mag)+len(n.Number.Den) == 0
	switch {
	case n.Op == api.OpBool:
		return zero && n.Var >= 0 && n.Var < m.bools
	case n.Op == api.OpReal:
		return zero && n.Var >= 0 && n.Var < m.reals
	case n.Op == api.OpNumber:
		return n.Var == 0 && isOneForm(n.Number)
	}
	return zero && n.Var == 0 && n.Op >= 1 && n.Op <= 21
}

// count tells whether a node has as many kids as it must.
func (m *model) count(n api.Node) bool {
	kids := len(n.Kids)
	switch {
	case n.Op <= 5:
		return kids == 0
	case n.Op == api.OpNot:
		return kids == 1
	case n.Op == api.OpIte:
		return kids == 3
	case n.Op == api.OpSub:
		return kids >= 1
	}
	return kids >= 2
}

// sort gives the sort of a node; 0, if a kid's is wrong.
func (m *model) sort(n api.Node) int {
	var of [3]int // how many kids are of each sort
	for _, kid := range n.Kids {
		of[m.sorts[kid]]++
	}
	switch {
	case n.Op == api.OpReal || n.Op == api.OpNumber:
		return 2
	case n.Op <= 3:
		return 1
	case n.Op <= 10 && of[2] == 0, n.Op >= 12 && n.Op <= 13 && of[1]*of[2] == 0, n.Op >= 14 && n.Op <= 17 && of[1] == 0:
		return 1
	case n.Op >= 18 && of[1] == 0:
		return 2
	case n.Op == api.OpIte && m.sorts[n.Kids[0]] == 1 && of[1] == 3:
		return 1
	case n.Op == api.OpIte && m.sorts[n.Kids[0]] == 1 && of[1] == 1:
		return 2
	}
	return 0
}

// loose tells how many of some places are of nodes that aren't ground.
func (m *model) loose(places []int) int {
	count := 0
	for _, at := range places {
		if !m.ground[at] {
			count++
		}
	}
	return count
}

// add gives what a node is answered, and adds it, if it is right.
func (m *model) add(n api.Node) api.Errno {
	switch {
	case !m.argument(n):
		return api.ErrArg
	case slices.ContainsFunc(n.Kids, func(kid int) bool { return !(kid >= 0 && kid < len(m.sorts)) }):
		return api.ErrRange
	case !m.count(n):
		return api.ErrCount
	case m.sort(n) == 0:
		return api.ErrSort
	case n.Op == api.OpMul && m.loose(n.Kids) > 1, n.Op == api.OpDiv && m.loose(n.Kids[1:]) > 0:
		return api.ErrLine
	}
	m.ground = append(m.ground, n.Op == api.OpNumber || n.Op >= api.OpAdd && m.loose(n.Kids) == 0)
	m.sorts = append(m.sorts, m.sort(n))
	return api.OK
}
