package tableau

import (
	"cmp"
	"slices"

	"steelyard/api"
	"steelyard/delta"
	"steelyard/linear"
	"steelyard/nat"
	"steelyard/ratio"
)

// Update lets an unknown that is basic of none be a number.
func Update(b *nat.Bench, t *api.Tableau, v int, x api.Delta) api.Errno {
	if !isUnknown(*t, v) || Row(*t, v) >= 0 {
		return api.ErrRange
	}
	more := delta.Sub(b, x, t.Values[v])
	t.Values[v] = api.Delta{A: own(x.A), B: own(x.B)}
	for i, basic := range t.Basic[:rows(*t)] {
		p := t.Rows[i]
		if at, ok := place(p, v); ok && isUnknown(*t, basic) {
			t.Values[basic] = delta.Add(b, t.Values[basic], delta.Scale(b, p.Monos[at].Coef, more))
		}
	}
	return done(b)
}

// Pivot lets an unknown be basic of a row.
func Pivot(b *nat.Bench, t *api.Tableau, row, v int) api.Errno {
	if row < 0 || row >= rows(*t) {
		return api.ErrRange
	}
	at, ok := place(t.Rows[row], v)
	if !ok {
		return api.ErrArg
	}
	solved := solve(b, t.Basic[row], t.Rows[row], at)
	for i, p := range t.Rows {
		if at, ok := place(p, v); ok && i != row {
			t.Rows[i] = linear.Add(b, without(p, at), p.Monos[at].Coef, solved)
		}
	}
	t.Basic[row], t.Rows[row] = v, solved
	return done(b)
}

// solve gives what the unknown at a place of a row is, where the row is the unknown basic.
func solve(b *nat.Bench, basic int, p api.Poly, at int) api.Poly {
	k := ratio.Div(b, ratio.Of(1), p.Monos[at].Coef)
	return linear.Add(b, linear.Scale(b, k, linear.Of(basic)), ratio.Neg(k), without(p, at))
}

// place gives where an unknown stands in a row; false, if it doesn't.
func place(p api.Poly, v int) (int, bool) {
	order := func(m api.Mono, v int) int { return cmp.Compare(m.Var, v) }
	return slices.BinarySearchFunc(p.Monos, v, order)
}

// without gives a row without the unknown at a place, in the memory of its numbers.
func without(p api.Poly, at int) api.Poly {
	return api.Poly{Const: p.Const, Monos: slices.Concat(p.Monos[:at], p.Monos[at+1:])}
}

// rows gives how many rows there are, each with its basic unknown; there are as many of both, if the tableau is right.
func rows(t api.Tableau) int { return min(len(t.Basic), len(t.Rows)) }

// isUnknown tells whether there is such an unknown.
func isUnknown(t api.Tableau, v int) bool { return v >= 0 && v < len(t.Values) }

// done gives the error of a call that has reckoned on a bench.
func done(b *nat.Bench) api.Errno {
	if b.Over() {
		return api.ErrOver
	}
	return api.OK
}
