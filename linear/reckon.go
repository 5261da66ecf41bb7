package linear

import (
	"steelyard/api"
	"steelyard/nat"
	"steelyard/ratio"
)

// Add gives p, and q so many times.
func Add(b *nat.Bench, p api.Poly, k api.Ratio, q api.Poly) api.Poly {
	more := Scale(b, k, q)
	sum := api.Poly{Const: ratio.Add(b, p.Const, more.Const), Monos: merge(b, p.Monos, more.Monos)}
	if b.Over() {
		return api.Poly{}
	}
	return sum
}

// merge gives the unknowns of both, together; those of more have memory that is nobody else's.
func merge(b *nat.Bench, list, more []api.Mono) []api.Mono {
	sum := make([]api.Mono, 0, len(list)+len(more))
	for _, m := range list {
		for len(more) > 0 && more[0].Var < m.Var {
			sum, more = append(sum, more[0]), more[1:]
		}
		if len(more) > 0 && more[0].Var == m.Var {
			m.Coef, more = ratio.Add(b, m.Coef, more[0].Coef), more[1:]
		} else {
			m.Coef = answer(b, m.Coef)
		}
		if ratio.Sign(m.Coef) != 0 {
			sum = append(sum, m)
		}
	}
	return append(sum, more...)
}

// Scale gives a sum so many times.
func Scale(b *nat.Bench, k api.Ratio, p api.Poly) api.Poly {
	times := func(x api.Ratio) api.Ratio { return ratio.Mul(b, k, x) }
	product := api.Poly{Const: times(p.Const), Monos: make([]api.Mono, 0, len(p.Monos))}
	for _, m := range p.Monos {
		m.Coef = times(m.Coef)
		if ratio.Sign(m.Coef) != 0 {
			product.Monos = append(product.Monos, m)
		}
	}
	if b.Over() {
		return api.Poly{}
	}
	return product
}

// Normal gives a sum without its number, the first unknown of which stands once, and how many times that is the sum.
func Normal(b *nat.Bench, p api.Poly) (api.Poly, api.Ratio) {
	if len(p.Monos) == 0 {
		return api.Poly{}, api.Ratio{}
	}
	k := answer(b, p.Monos[0].Coef)
	// 1 through k has k's limbs, the one way up or the other: it lets no bench become over that k doesn't.
	q := Scale(b, ratio.Div(b, ratio.Of(1), k), api.Poly{Monos: p.Monos})
	if b.Over() {
		return api.Poly{}, api.Ratio{}
	}
	return q, k
}

// answer gives a number that is there already as one that the bench answers: it counts against it, and is new memory.
func answer(b *nat.Bench, x api.Ratio) api.Ratio {
	x.Num.Mag, x.Den = b.Add(x.Num.Mag, nil), b.Add(x.Den, nil)
	return x
}
