package cnf

import (
	"slices"

	"steelyard/api"
	"steelyard/nat"
)

// builder makes a problem, node by node.
type builder struct {
	api.Problem
	bench *nat.Bench
	yes   int            // the literal of T
	rows  map[string]int // of a row's sum, as bytes, its place
	atoms map[mark]int   // of what an atom tells its literal
}

// newBuilder gives a problem of so many unknowns, ahead of all nodes.
func newBuilder(bools, reals, limbs int) *builder {
	b := &builder{bench: nat.New(limbs), rows: map[string]int{}, atoms: map[mark]int{}}
	b.Bools, b.Reals = bools, reals
	b.yes = b.truth()
	b.put(b.yes)
	return b
}

// truth gives the literal of a new truth.
func (b *builder) truth() int {
	b.Bools++
	return b.Bools
}

// put puts a clause behind the others.
func (b *builder) put(lits ...int) { b.Clauses = append(b.Clauses, slices.Clone(lits)) }

// add adds the literal, or the sum, of a node.
func (b *builder) add(n api.Node) {
	lit, sum := 0, api.Poly{}
	if b.isNumber(n) {
		sum = b.sum(n)
	} else {
		lit = b.literal(n)
	}
	b.Lits, b.Polys = append(b.Lits, lit), append(b.Polys, sum)
}

// isNumber tells whether a node is a number.
func (b *builder) isNumber(n api.Node) bool {
	switch n.Op {
	case api.OpReal, api.OpNumber, api.OpAdd, api.OpSub, api.OpMul, api.OpDiv:
		return true
	case api.OpIte:
		return b.isSum(n.Kids[1])
	}
	return false
}

// isSum tells whether the node at a place is a number: no truth's literal is 0.
func (b *builder) isSum(at int) bool { return b.Lits[at] == 0 }

// literals gives those of the nodes at places.
func (b *builder) literals(kids []int) []int {
	list := make([]int, 0, len(kids))
	for _, kid := range kids {
		list = append(list, b.Lits[kid])
	}
	return list
}

// sums gives those of the nodes at places.
func (b *builder) sums(kids []int) []api.Poly {
	list := make([]api.Poly, 0, len(kids))
	for _, kid := range kids {
		list = append(list, b.Polys[kid])
	}
	return list
}
