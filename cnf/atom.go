package cnf

import (
	"steelyard/api"
	"steelyard/delta"
	"steelyard/linear"
	"steelyard/pack"
	"steelyard/ratio"
)

// mark is what an atom tells: of which number, or row, and its bound, as bytes.
type mark struct {
	row, number int
	bound       string
}

// below gives a literal that is true where a sum is at most 0, or less than 0.
func (b *builder) below(p api.Poly, strict bool) int {
	if len(p.Monos) == 0 {
		return b.known(ratio.Sign(p.Const) < 0 || !strict && ratio.Sign(p.Const) == 0)
	}
	q, k := linear.Normal(b.bench, p)
	x := ratio.Div(b.bench, ratio.Neg(p.Const), k)
	if ratio.Sign(k) > 0 {
		return b.atom(q, b.bound(x, strict))
	}
	// Through a number below 0 it is at least x: it isn't less.
	return -b.atom(q, b.bound(x, !strict))
}

// known gives the literal of what is so, or isn't, whatever the unknowns are.
func (b *builder) known(is bool) int {
	if is {
		return b.yes
	}
	return -b.yes
}

// bound gives a number, or a little less.
func (b *builder) bound(x api.Ratio, less bool) api.Delta {
	if less {
		return delta.Sub(b.bench, delta.Of(x), api.Delta{B: ratio.Of(1)})
	}
	return delta.Of(x)
}

// atom gives the literal of the atom that a sum is at most a bound.
func (b *builder) atom(q api.Poly, bound api.Delta) int {
	a := api.Atom{Row: -1, Bound: bound}
	if len(q.Monos) == 1 {
		a.Var = q.Monos[0].Var
	} else {
		a.Row = b.row(q)
	}
	o := &pack.Out{}
	o.Delta(bound)
	m := mark{a.Row, a.Var, string(o.Done())}
	if lit, ok := b.atoms[m]; ok {
		return lit
	}
	lit := b.truth()
	a.Bool = lit - 1
	b.Atoms, b.atoms[m] = append(b.Atoms, a), lit
	return lit
}

// row gives the place of the row that is a sum.
func (b *builder) row(q api.Poly) int {
	o := &pack.Out{}
	for _, m := range q.Monos {
		o.Int(m.Var)
		o.Ratio(m.Coef)
	}
	sum := string(o.Done())
	if at, ok := b.rows[sum]; ok {
		return at
	}
	at := len(b.Rows)
	b.Rows, b.rows[sum] = append(b.Rows, q), at
	return at
}
