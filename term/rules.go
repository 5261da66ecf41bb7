package term

import (
	"math"
	"slices"

	"steelyard/api"
	"steelyard/ratio"
)

// kind is what a node is to those over it; the zero value, if there is none.
type kind struct {
	sort   int
	ground bool
}

// rules is what the next node is held against: the operators, the unknowns, and what the nodes ahead are.
type rules struct {
	operators map[int]operator
	greatest  map[int]int // of each sort the greatest number of an unknown; -1, if there is none
	kinds     []kind
}

// newRules gives rules for so many unknowns of each sort, ahead of all nodes.
func newRules(bools, reals int) *rules {
	return &rules{
		operators: operators(),
		greatest:  map[int]int{truth: max(bools, 0) - 1, number: max(reals, 0) - 1},
	}
}

// grow lets there be one unknown more of a sort, and gives its number; -1, if there is no such sort, or no number is left.
func (r *rules) grow(sort int) int {
	last, ok := r.greatest[sort]
	if !ok || last == math.MaxInt {
		return -1
	}
	r.greatest[sort] = last + 1
	return last + 1
}

// kind gives what the node at a place is.
func (r *rules) kind(at int) kind {
	if !r.has(at) {
		return kind{}
	}
	return r.kinds[at]
}

// has tells whether a place is that of a node.
func (r *rules) has(at int) bool { return 0 <= at && at < len(r.kinds) }

// take takes the next node; an error, if it can't be.
func (r *rules) take(n api.Node) api.Errno {
	o, ok := r.operators[n.Op]
	switch {
	case !ok || !r.isTold(n, o.sort):
		return api.ErrArg
	case slices.ContainsFunc(n.Kids, func(kid int) bool { return !r.has(kid) }):
		return api.ErrRange
	case !o.counts(len(n.Kids)):
		return api.ErrCount
	case !r.isSorted(n.Kids, o):
		return api.ErrSort
	case !r.isLinear(n):
		return api.ErrLine
	case len(r.kinds) >= api.MaxNodes:
		return api.ErrSpace
	}
	r.kinds = append(r.kinds, kind{sort: r.sortOver(n.Kids, o.sort), ground: r.isGround(n)})
	return api.OK
}

// isTold tells whether a node of a sort has the unknown, or the number, that its operator asks for, and nothing else of them.
func (r *rules) isTold(n api.Node, sort int) bool {
	switch n.Op {
	case api.OpBool, api.OpReal:
		return 0 <= n.Var && n.Var <= r.greatest[sort] && isZero(n.Number)
	case api.OpNumber:
		return n.Var == 0 && ratio.Right(n.Number)
	}
	return n.Var == 0 && isZero(n.Number)
}

// isZero tells whether a ratio is the zero value; one that isn't in its one form never is.
func isZero(x api.Ratio) bool { return !x.Num.Neg && len(x.Num.Mag) == 0 && len(x.Den) == 0 }

// isSorted tells whether kids, of which there are neither too few nor too many, are of the sorts that an operator asks for.
func (r *rules) isSorted(kids []int, o operator) bool {
	for i, kid := range kids {
		if r.kind(kid).sort != r.sortOver(kids, o.kidSort(i)) {
			return false
		}
	}
	return true
}

// sortOver gives a sort as it is; the last kid's, where it is same.
func (r *rules) sortOver(kids []int, sort int) int {
	if sort == same {
		return r.kind(kids[len(kids)-1]).sort
	}
	return sort
}

// isLinear tells whether all kids of a product but one, and all of a quotient but the first one, are ground.
func (r *rules) isLinear(n api.Node) bool {
	switch n.Op {
	case api.OpMul:
		first := slices.IndexFunc(n.Kids, r.isLoose)
		return first < 0 || !slices.ContainsFunc(n.Kids[first+1:], r.isLoose)
	case api.OpDiv:
		return !slices.ContainsFunc(n.Kids[1:], r.isLoose)
	}
	return true
}

// isGround tells whether a node is ground.
func (r *rules) isGround(n api.Node) bool {
	switch n.Op {
	case api.OpNumber:
		return true
	case api.OpAdd, api.OpSub, api.OpMul, api.OpDiv:
		return !slices.ContainsFunc(n.Kids, r.isLoose)
	}
	return false
}

// isLoose tells whether the node at a place isn't ground.
func (r *rules) isLoose(at int) bool { return !r.kind(at).ground }
