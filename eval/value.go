package eval

import (
	"slices"

	"steelyard/api"
	"steelyard/nat"
	"steelyard/ratio"
)

// reckoner is what nodes are reckoned by: the bench, the unknowns, the orders, and what the nodes ahead are.
type reckoner struct {
	bench  *nat.Bench
	bools  []bool
	reals  []api.Ratio
	orders map[int]order
	values []api.Value
}

// newReckoner gives a reckoner ahead of all nodes, with room for so many.
func newReckoner(b *nat.Bench, bools []bool, reals []api.Ratio, nodes int) *reckoner {
	return &reckoner{bench: b, bools: bools, reals: reals, orders: orders(), values: make([]api.Value, 0, nodes)}
}

// value gives what the next node is, in new memory.
func (r *reckoner) value(n api.Node) api.Value {
	switch n.Op {
	case api.OpReal:
		return api.Value{Number: own(r.reals[n.Var])}
	case api.OpNumber:
		return api.Value{Number: own(n.Number)}
	case api.OpIte:
		return r.choice(n.Kids)
	case api.OpAdd:
		return r.fold(n.Kids, ratio.Add)
	case api.OpSub:
		return r.difference(n.Kids)
	case api.OpMul:
		return r.fold(n.Kids, ratio.Mul)
	case api.OpDiv:
		return r.fold(n.Kids, ratio.Div)
	}
	return api.Value{Truth: r.truth(n)}
}

// truth tells whether a node is true, that is one whatever its kids are.
func (r *reckoner) truth(n api.Node) bool {
	switch n.Op {
	case api.OpTrue:
		return true
	case api.OpBool:
		return r.bools[n.Var]
	case api.OpNot:
		return !r.isTrue(n.Kids[0])
	case api.OpAnd:
		return r.areTrue(n.Kids)
	case api.OpOr:
		return slices.ContainsFunc(n.Kids, r.isTrue)
	case api.OpXor:
		return r.isOdd(n.Kids)
	case api.OpImplies:
		// From the right, it is false in one case only: all but the last one are true, and that one isn't.
		last := len(n.Kids) - 1
		return r.isTrue(n.Kids[last]) || !r.areTrue(n.Kids[:last])
	case api.OpDistinct:
		return r.areDistinct(n.Kids)
	case api.OpEqual, api.OpLess, api.OpAtMost, api.OpGreater, api.OpAtLeast:
		return r.areInOrder(n.Kids, r.orders[n.Op])
	}
	return false
}

// isTrue tells whether the node at a place is true.
func (r *reckoner) isTrue(at int) bool { return r.values[at].Truth }

// areTrue tells whether all nodes at places are true.
func (r *reckoner) areTrue(kids []int) bool {
	for _, kid := range kids {
		if !r.isTrue(kid) {
			return false
		}
	}
	return true
}

// isOdd tells whether the number of nodes at places that are true is odd.
func (r *reckoner) isOdd(kids []int) bool {
	odd := false
	for _, kid := range kids {
		odd = odd != r.isTrue(kid)
	}
	return odd
}

// areInOrder tells whether each two nodes that stand side by side are in an order.
func (r *reckoner) areInOrder(kids []int, o order) bool {
	for i, kid := range kids[1:] {
		if !o(r.values[kids[i]], r.values[kid]) {
			return false
		}
	}
	return true
}

// areDistinct tells whether no two nodes at places are one.
func (r *reckoner) areDistinct(kids []int) bool {
	// In order, those that are one stand side by side: so not all pairs need be looked at.
	sorted := slices.Clone(kids)
	slices.SortFunc(sorted, func(i, j int) int { return compare(r.values[i], r.values[j]) })
	return r.areInOrder(sorted, r.orders[api.OpLess])
}

// choice gives the second one, if the first one is true, else the third one.
func (r *reckoner) choice(kids []int) api.Value {
	chosen := kids[2]
	if r.isTrue(kids[0]) {
		chosen = kids[1]
	}
	v := r.values[chosen]
	v.Number = own(v.Number)
	return v
}

// difference gives one number with the other sign; of more the first one less all others.
func (r *reckoner) difference(kids []int) api.Value {
	if len(kids) == 1 {
		return api.Value{Number: ratio.Neg(r.values[kids[0]].Number)}
	}
	return r.fold(kids, ratio.Sub)
}

// fold gives what is reckoned of two numbers or more, from the first one on.
func (r *reckoner) fold(kids []int, reckon func(b *nat.Bench, x, y api.Ratio) api.Ratio) api.Value {
	x := r.values[kids[0]].Number
	for _, kid := range kids[1:] {
		x = reckon(r.bench, x, r.values[kid].Number)
	}
	return api.Value{Number: x}
}

// own gives a number in memory of its own.
func own(x api.Ratio) api.Ratio {
	x.Num.Mag, x.Den = slices.Clone(x.Num.Mag), slices.Clone(x.Den)
	return x
}
