package cnf

import "steelyard/api"

// literal gives the literal of a node that is a truth.
func (b *builder) literal(n api.Node) int {
	switch n.Op {
	case api.OpTrue:
		return b.yes
	case api.OpFalse:
		return -b.yes
	case api.OpBool:
		return n.Var + 1
	case api.OpEqual, api.OpDistinct:
		if b.isSum(n.Kids[0]) {
			return b.both(pairs(n.Op, b.sums(n.Kids), b.same, b.differ))
		}
		return b.both(pairs(n.Op, b.literals(n.Kids), b.even, b.odd))
	case api.OpLess, api.OpAtMost, api.OpGreater, api.OpAtLeast:
		return b.both(beside(b.sums(n.Kids), b.order(n.Op)))
	}
	return b.joined(n.Op, b.literals(n.Kids))
}

// joined gives the literal of an operator over truths alone.
func (b *builder) joined(op int, list []int) int {
	last := len(list) - 1
	switch op {
	case api.OpNot:
		return -list[0]
	case api.OpAnd:
		return b.both(list)
	case api.OpOr:
		return b.either(list)
	case api.OpImplies:
		return b.either(append(opposite(list[:last]), list[last]))
	case api.OpXor:
		return b.oddOfAll(list)
	}
	return b.choice(list[0], list[1], list[2])
}

// opposite gives literals with the other sign.
func opposite(list []int) []int {
	var others []int
	for _, l := range list {
		others = append(others, -l)
	}
	return others
}

// both gives a literal that is true where all of a list are.
func (b *builder) both(list []int) int { return b.all(list, 1) }

// either gives a literal that is true where one of a list is: with the other sign, all of them are with the other sign.
func (b *builder) either(list []int) int { return b.all(list, -1) }

// all gives a literal that, times a sign, is true where all of a list are, each times that sign.
func (b *builder) all(list []int, sign int) int {
	switch len(list) {
	case 0:
		return sign * b.yes
	case 1:
		return list[0]
	}
	a := b.truth()
	whole := []int{sign * a}
	for _, l := range list {
		b.put(-sign*a, sign*l)
		whole = append(whole, -sign*l)
	}
	b.put(whole...)
	return a
}

// odd gives a literal that is true where one of two is, and the other one isn't.
func (b *builder) odd(l, m int) int {
	a := b.truth()
	b.put(-a, l, m)
	b.put(-a, -l, -m)
	b.put(a, -l, m)
	b.put(a, l, -m)
	return a
}

// even gives a literal that is true where both are, or none is.
func (b *builder) even(l, m int) int { return -b.odd(l, m) }

// oddOfAll gives a literal that is true where the number of true ones is odd.
func (b *builder) oddOfAll(list []int) int {
	a := list[0]
	for _, l := range list[1:] {
		a = b.odd(a, l)
	}
	return a
}

// choice gives a literal that is the second one where the first one is true, and else the third one.
func (b *builder) choice(c, t, e int) int {
	a := b.truth()
	b.put(-c, -t, a)
	b.put(-c, t, -a)
	b.put(c, -e, a)
	b.put(c, e, -a)
	return a
}
