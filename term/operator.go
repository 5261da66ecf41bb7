package term

import (
	"math"

	"steelyard/api"
)

const (
	truth  = api.SortBool
	number = api.SortReal
	same   = 0 // no sort of its own, but that of the last kid
	many   = math.MaxInt
)

// operator is what its nodes must have, and are.
type operator struct {
	least, most   int // how many kids there are
	first, others int // the sorts of the first kid, and of the others
	sort          int
}

// operators gives all operators.
func operators() map[int]operator {
	return map[int]operator{
		api.OpTrue:     {sort: truth},
		api.OpFalse:    {sort: truth},
		api.OpBool:     {sort: truth},
		api.OpReal:     {sort: number},
		api.OpNumber:   {sort: number},
		api.OpNot:      {1, 1, truth, truth, truth},
		api.OpAnd:      {2, many, truth, truth, truth},
		api.OpOr:       {2, many, truth, truth, truth},
		api.OpXor:      {2, many, truth, truth, truth},
		api.OpImplies:  {2, many, truth, truth, truth},
		api.OpIte:      {3, 3, truth, same, same},
		api.OpEqual:    {2, many, same, same, truth},
		api.OpDistinct: {2, many, same, same, truth},
		api.OpLess:     {2, many, number, number, truth},
		api.OpAtMost:   {2, many, number, number, truth},
		api.OpGreater:  {2, many, number, number, truth},
		api.OpAtLeast:  {2, many, number, number, truth},
		api.OpAdd:      {2, many, number, number, number},
		api.OpSub:      {1, many, number, number, number},
		api.OpMul:      {2, many, number, number, number},
		api.OpDiv:      {2, many, number, number, number},
	}
}

// counts tells whether so many kids may be.
func (o operator) counts(kids int) bool { return o.least <= kids && kids <= o.most }

// kidSort gives the sort of a kid, by its index.
func (o operator) kidSort(index int) int {
	if index == 0 {
		return o.first
	}
	return o.others
}
