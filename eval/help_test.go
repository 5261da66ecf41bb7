package eval_test

import (
	"math"
	"math/big"
	"slices"
	"testing"

	"steelyard/api"
	"steelyard/eval"
	"steelyard/nat"
	"steelyard/ratio"
)

// over gives a node of an operator over others.
func over(op int, kids ...int) api.Node { return api.Node{Op: op, Kids: kids} }

// unknown gives a node that is an unknown.
func unknown(op, v int) api.Node { return api.Node{Op: op, Var: v} }

// number gives a node that is a number.
func number(x api.Ratio) api.Node { return api.Node{Op: api.OpNumber, Number: x} }

// made gives a ratio of its parts, as they are.
func made(neg bool, num, den api.Nat) api.Ratio {
	return api.Ratio{Num: api.Whole{Neg: neg, Mag: num}, Den: den}
}

// read gives the ratio of a text such as -3/4.
func read(s string) api.Ratio {
	x, ok := new(big.Rat).SetString(s)
	if !ok {
		panic(s + " is no number")
	}
	return fromRat(x)
}

// power gives 2^n, plus more.
func power(n uint, more int64) api.Ratio {
	p := new(big.Int).Lsh(big.NewInt(1), n)
	return fromRat(new(big.Rat).SetInt(p.Add(p, big.NewInt(more))))
}

// fromInt gives the limbs of a number that isn't below 0.
func fromInt(n *big.Int) api.Nat {
	var x api.Nat
	for left := new(big.Int).Set(n); left.Sign() > 0; left.Rsh(left, 32) {
		x = append(x, uint32(left.Uint64()))
	}
	return x
}

// fromRat gives a rational number in its one form.
func fromRat(x *big.Rat) api.Ratio {
	num := api.Whole{Neg: x.Sign() < 0, Mag: fromInt(new(big.Int).Abs(x.Num()))}
	if x.IsInt() {
		return api.Ratio{Num: num}
	}
	return api.Ratio{Num: num, Den: fromInt(x.Denom())}
}

// toInt gives the number of limbs.
func toInt(x api.Nat) *big.Int {
	n := new(big.Int)
	for _, limb := range slices.Backward(x) {
		n.Lsh(n, 32).Or(n, big.NewInt(int64(limb)))
	}
	return n
}

// toRat gives the rational number that a ratio is.
func toRat(x api.Ratio) *big.Rat {
	num, den := toInt(x.Num.Mag), big.NewInt(1)
	if x.Num.Neg {
		num.Neg(num)
	}
	if len(x.Den) > 0 {
		den = toInt(x.Den)
	}
	return new(big.Rat).SetFrac(num, den)
}

// sameRatio tells whether two ratios are one, limb by limb; lists without elements are one.
func sameRatio(x, y api.Ratio) bool {
	return x.Num.Neg == y.Num.Neg && slices.Equal(x.Num.Mag, y.Num.Mag) && slices.Equal(x.Den, y.Den)
}

// same tells whether two values are one.
func same(x, y api.Value) bool { return x.Truth == y.Truth && sameRatio(x.Number, y.Number) }

// truth gives the value of a truth.
func truth(is bool) api.Value { return api.Value{Truth: is} }

// worth gives the value of a number.
func worth(s string) api.Value { return api.Value{Number: read(s)} }

// The places of a bed's nodes.
const (
	boolP = iota // true
	boolQ        // false
	realX        // 7
	realY        // -3/2
	two
	minus // -3
	zero
	allTrue
	allFalse
	bedNodes
)

// bed gives nodes of all kinds without kids.
func bed() []api.Node {
	return []api.Node{
		unknown(api.OpBool, 0), unknown(api.OpBool, 1), unknown(api.OpReal, 0), unknown(api.OpReal, 1),
		number(ratio.Of(2)), number(ratio.Of(-3)), number(ratio.Of(0)), over(api.OpTrue), over(api.OpFalse),
	}
}

// bedBools, bedReals give what the unknowns of a bed are.
func bedBools() []bool      { return []bool{true, false} }
func bedReals() []api.Ratio { return []api.Ratio{ratio.Of(7), read("-3/2")} }

// bedValues gives what the nodes of a bed are.
func bedValues() []api.Value {
	return []api.Value{truth(true), truth(false), worth("7"), worth("-3/2"), worth("2"), worth("-3"), {}, truth(true), {}}
}

// evals tells an error, if nodes aren't these values.
func evals(t *testing.T, limbs int, nodes []api.Node, bools []bool, reals []api.Ratio, want []api.Value) {
	t.Helper()
	b := nat.New(limbs)
	got, code := eval.All(b, nodes, bools, reals)
	if code != api.OK || !slices.EqualFunc(got, want, same) || b.Over() {
		t.Errorf("%v: %v, %v; not %v", nodes, got, code, want)
	}
}

// onBed tells an error, if nodes behind those of a bed aren't these values.
func onBed(t *testing.T, nodes []api.Node, want ...api.Value) {
	t.Helper()
	evals(t, 8, append(bed(), nodes...), bedBools(), bedReals(), append(bedValues(), want...))
}

// fails tells an error, if nodes aren't answered this error.
func fails(t *testing.T, b *nat.Bench, nodes []api.Node, bools []bool, reals []api.Ratio, want api.Errno) {
	t.Helper()
	was := b.Over()
	if got, code := eval.All(b, nodes, bools, reals); len(got) != 0 || code != want {
		t.Errorf("%v: %v, %v; not %v", nodes, got, code, want)
	}
	if b.Over() != (was || want == api.ErrOver) {
		t.Errorf("%v: over is %v", nodes, b.Over())
	}
}

// overBench gives a bench that is over.
func overBench(t *testing.T, limbs int) *nat.Bench {
	t.Helper()
	b := nat.New(limbs)
	if b.Add(power(32*uint(limbs), 0).Num.Mag, nil); !b.Over() {
		t.Fatalf("a bench for %d limbs isn't over", limbs)
	}
	return b
}

// allOps gives all operators.
func allOps() []int {
	var list []int
	for op := api.OpTrue; op <= api.OpDiv; op++ {
		list = append(list, op)
	}
	return list
}

// example gives a node of an operator over those of a bed, that is right.
func example(op int) api.Node {
	switch op {
	case api.OpTrue, api.OpFalse, api.OpBool, api.OpReal:
		return over(op)
	case api.OpNumber:
		return number(read("-5/9"))
	case api.OpNot:
		return over(op, boolQ)
	case api.OpAnd, api.OpOr, api.OpXor, api.OpImplies:
		return over(op, boolP, boolQ)
	case api.OpIte:
		return over(op, boolP, realY, realX)
	case api.OpMul, api.OpDiv:
		return over(op, realX, two)
	}
	return over(op, realX, realY)
}

// oddRatios are ratios of all kinds that aren't in their one form.
func oddRatios() []api.Ratio {
	return []api.Ratio{
		// 0 below 0, and 0 through something
		made(true, nil, nil), made(false, nil, api.Nat{2}), made(true, nil, api.Nat{2}), made(false, nil, api.Nat{1}),
		// through 0, and through a 1 that is written out
		made(false, api.Nat{1}, api.Nat{0}), made(false, api.Nat{3}, api.Nat{1}), made(true, api.Nat{1}, api.Nat{1}), made(false, api.Nat{5}, api.Nat{0, 0}),
		// noughts at the end of limbs
		made(false, api.Nat{0}, nil), made(false, api.Nat{1, 0}, nil), made(false, api.Nat{1}, api.Nat{2, 0}), made(true, api.Nat{0, 0}, api.Nat{3}),
		// something divides both
		made(false, api.Nat{2}, api.Nat{2}), made(true, api.Nat{6}, api.Nat{4}), made(false, api.Nat{0, 1}, api.Nat{6}), made(false, api.Nat{7, 7}, api.Nat{3, 3}),
	}
}

// rightRatios are ratios of all kinds in their one form.
func rightRatios() []api.Ratio {
	return []api.Ratio{
		{}, made(false, api.Nat{}, api.Nat{}), ratio.Of(1), ratio.Of(-1), ratio.Of(math.MinInt64), ratio.Of(math.MaxInt64),
		made(false, api.Nat{1}, api.Nat{2}), made(true, api.Nat{2}, api.Nat{3}), made(true, api.Nat{0, 1}, api.Nat{3}), made(false, api.Nat{1}, api.Nat{0, 0, 1}), made(true, api.Nat{5}, api.Nat{}),
	}
}

// model is what nodes are by the words of the document.
type model struct {
	bools  []bool
	reals  []api.Ratio
	limbs  int
	over   bool
	truths []bool
	rats   []*big.Rat // nil of a truth
}

// fit gives a number that was reckoned; the bench is over, if it is too great.
func (m *model) fit(x *big.Rat) *big.Rat {
	most := 32 * m.limbs
	m.over = m.over || x.Num().BitLen() > most || !x.IsInt() && x.Denom().BitLen() > most
	return x
}

// pick gives what the kids of a node are.
func (m *model) pick(n api.Node) ([]bool, []*big.Rat) {
	var truths []bool
	var rats []*big.Rat
	for _, kid := range n.Kids {
		truths = append(truths, m.truths[kid])
		rats = append(rats, m.rats[kid])
	}
	return truths, rats
}

// implies tells whether truths imply one another, from the right.
func implies(list []bool) bool {
	if len(list) == 1 {
		return list[0]
	}
	return !list[0] || implies(list[1:])
}

// pairs tells whether a test holds of each two, side by side or whichever.
func pairs(count int, beside bool, holds func(i, j int) bool) bool {
	for i := range count {
		for j := i + 1; j < count; j++ {
			if (!beside || j == i+1) && !holds(i, j) {
				return false
			}
		}
	}
	return true
}

// count tells how many are true.
func count(list []bool) int {
	n := 0
	for _, is := range list {
		if is {
			n++
		}
	}
	return n
}

// reckon gives what is reckoned of numbers, one step after the other.
func (m *model) reckon(op int, list []*big.Rat) *big.Rat {
	x := new(big.Rat).Set(list[0])
	if op == api.OpSub && len(list) == 1 {
		return x.Neg(x)
	}
	for _, y := range list[1:] {
		switch {
		case op == api.OpAdd:
			x.Add(x, y)
		case op == api.OpSub:
			x.Sub(x, y)
		case op == api.OpMul:
			x.Mul(x, y)
		case y.Sign() == 0:
			x.SetInt64(0)
		default:
			x.Quo(x, y)
		}
		m.fit(x)
	}
	return x
}

// add reckons the next node.
func (m *model) add(n api.Node) {
	truths, rats := m.pick(n)
	cmp := func(i, j int) int {
		if rats[0] != nil {
			return rats[i].Cmp(rats[j])
		}
		return count(truths[i:i+1]) - count(truths[j:j+1])
	}
	is, x := false, (*big.Rat)(nil)
	switch n.Op {
	case api.OpTrue:
		is = true
	case api.OpFalse:
	case api.OpBool:
		is = m.bools[n.Var]
	case api.OpReal:
		x = toRat(m.reals[n.Var])
	case api.OpNumber:
		x = toRat(n.Number)
	case api.OpNot:
		is = !truths[0]
	case api.OpAnd:
		is = count(truths) == len(truths)
	case api.OpOr:
		is = count(truths) > 0
	case api.OpXor:
		is = count(truths)%2 == 1
	case api.OpImplies:
		is = implies(truths)
	case api.OpIte:
		is, x = truths[2], rats[2]
		if truths[0] {
			is, x = truths[1], rats[1]
		}
	case api.OpEqual:
		is = pairs(len(truths), true, func(i, j int) bool { return cmp(i, j) == 0 })
	case api.OpDistinct:
		is = pairs(len(truths), false, func(i, j int) bool { return cmp(i, j) != 0 })
	case api.OpLess:
		is = pairs(len(truths), true, func(i, j int) bool { return cmp(i, j) < 0 })
	case api.OpAtMost:
		is = pairs(len(truths), true, func(i, j int) bool { return cmp(i, j) <= 0 })
	case api.OpGreater:
		is = pairs(len(truths), true, func(i, j int) bool { return cmp(i, j) > 0 })
	case api.OpAtLeast:
		is = pairs(len(truths), true, func(i, j int) bool { return cmp(i, j) >= 0 })
	default:
		x = m.reckon(n.Op, rats)
	}
	m.truths, m.rats = append(m.truths, is), append(m.rats, x)
}

// all gives what nodes that are right are.
func (m *model) all(nodes []api.Node) []api.Value {
	var list []api.Value
	for at, n := range nodes {
		m.add(n)
		v := api.Value{Truth: m.truths[at]}
		if m.rats[at] != nil {
			v.Number = fromRat(m.rats[at])
		}
		list = append(list, v)
	}
	return list
}
