package cnf

import (
	"maps"
	"slices"

	"steelyard/api"
	"steelyard/linear"
	"steelyard/ratio"
)

// sum gives the sum of a node that is a number.
func (b *builder) sum(n api.Node) api.Poly {
	switch n.Op {
	case api.OpReal:
		return linear.Of(n.Var)
	case api.OpNumber:
		return api.Poly{Const: own(n.Number)}
	case api.OpIte:
		return b.chosen(b.Lits[n.Kids[0]], b.Polys[n.Kids[1]], b.Polys[n.Kids[2]])
	}
	list := b.sums(n.Kids)
	switch n.Op {
	case api.OpAdd:
		return b.added(1, list)
	case api.OpMul:
		return b.product(list)
	case api.OpDiv:
		return b.quotient(list)
	}
	if len(list) == 1 {
		return linear.Scale(b.bench, ratio.Of(-1), list[0])
	}
	return b.added(-1, list)
}

// own gives a number in memory of its own.
func own(x api.Ratio) api.Ratio {
	x.Num.Mag, x.Den = slices.Clone(x.Num.Mag), slices.Clone(x.Den)
	return x
}

// added gives the first sum, and each other one so many times.
func (b *builder) added(times int64, list []api.Poly) api.Poly {
	// Kept by its unknowns, a long sum needn't be gone through anew for each kid.
	k, number, coefs := ratio.Of(times), list[0].Const, map[int]api.Ratio{}
	for _, m := range list[0].Monos {
		coefs[m.Var] = own(m.Coef)
	}
	for _, q := range list[1:] {
		more := linear.Scale(b.bench, k, q)
		number = ratio.Add(b.bench, number, more.Const)
		for _, m := range more.Monos {
			coefs[m.Var] = ratio.Add(b.bench, coefs[m.Var], m.Coef)
		}
	}
	return api.Poly{Const: number, Monos: rising(coefs)}
}

// rising gives unknowns by their numbers, without those that stand 0 times.
func rising(coefs map[int]api.Ratio) []api.Mono {
	var list []api.Mono
	for _, v := range slices.Sorted(maps.Keys(coefs)) {
		if ratio.Sign(coefs[v]) != 0 {
			list = append(list, api.Mono{Var: v, Coef: coefs[v]})
		}
	}
	return list
}

// product gives the one sum of unknowns times all others, which are numbers.
func (b *builder) product(list []api.Poly) api.Poly {
	hasUnknowns := func(p api.Poly) bool { return len(p.Monos) > 0 }
	at := max(slices.IndexFunc(list, hasUnknowns), 0)
	p := list[at]
	for i, q := range list {
		if i != at {
			p = linear.Scale(b.bench, q.Const, p)
		}
	}
	return p
}

// quotient gives the first sum through all others, which are numbers.
func (b *builder) quotient(list []api.Poly) api.Poly {
	p := list[0]
	for _, q := range list[1:] {
		// 1 through 0 is 0, and so is what is scaled by it.
		p = linear.Scale(b.bench, ratio.Div(b.bench, ratio.Of(1), q.Const), p)
	}
	return p
}

// chosen gives a new number that is the first one where a literal is true, and else the second one.
func (b *builder) chosen(c int, t, e api.Poly) api.Poly {
	v := b.Reals
	b.Reals++
	l := b.same(linear.Of(v), t)
	m := b.same(linear.Of(v), e)
	b.put(-c, l)
	b.put(c, m)
	return linear.Of(v)
}

// minus gives the first sum less the second one.
func (b *builder) minus(p, q api.Poly) api.Poly {
	return linear.Add(b.bench, p, ratio.Of(-1), q)
}

// order gives by what two numbers have a literal.
func (b *builder) order(op int) func(p, q api.Poly) int {
	switch op {
	case api.OpLess:
		return b.less
	case api.OpAtMost:
		return b.atMost
	case api.OpGreater:
		return b.greater
	}
	return b.atLeast
}

// less, atMost, greater, atLeast, same, differ give a literal that is true where two numbers are so.
func (b *builder) less(p, q api.Poly) int    { return b.below(b.minus(p, q), true) }
func (b *builder) atMost(p, q api.Poly) int  { return b.below(b.minus(p, q), false) }
func (b *builder) greater(p, q api.Poly) int { return b.less(q, p) }
func (b *builder) atLeast(p, q api.Poly) int { return b.atMost(q, p) }
func (b *builder) same(p, q api.Poly) int    { return b.both([]int{b.atMost(p, q), b.atMost(q, p)}) }
func (b *builder) differ(p, q api.Poly) int  { return -b.same(p, q) }
