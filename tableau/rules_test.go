package tableau_test

import (
	"fmt"
	"math"
	"math/rand/v2"
	"strings"
	"testing"

	"steelyard/api"
	"steelyard/nat"
	"steelyard/ratio"
	"steelyard/tableau"
)

// oddInts gives numbers at the edges.
func oddInts() []int {
	return []int{math.MinInt, -2, -1, 0, 1, 2, 3, 4, 5, 1 << 32, math.MaxInt}
}

// pick gives one of a list.
func pick[T any](r *rand.Rand, list []T) T { return list[r.IntN(len(list))] }

// odd gives things by chance that seldom are right.
type odd struct {
	r       *rand.Rand
	numbers []api.Ratio
}

// newOdd gives one that goes by a seed.
func newOdd(seed uint64) odd {
	return odd{rand.New(rand.NewPCG(14, seed)), append(oddRatios(), api.Ratio{}, ratio.Of(1), ratio.Of(-3), ratio.Of(math.MinInt64))}
}

// number gives the number of an unknown, most often a small one.
func (o odd) number() int {
	if o.r.IntN(4) == 0 {
		return pick(o.r, oddInts())
	}
	return o.r.IntN(5)
}

// ratio gives a ratio, often one that is in its one form.
func (o odd) ratio() api.Ratio {
	if o.r.IntN(3) == 0 {
		return pick(o.r, o.numbers)
	}
	return ratio.Of(o.r.Int64N(5) - 2)
}

// value gives a number with a delta.
func (o odd) value() api.Delta { return api.Delta{A: o.ratio(), B: o.ratio()} }

// sum gives a sum.
func (o odd) sum() api.Poly {
	p := api.Poly{}
	if o.r.IntN(3) == 0 {
		p.Const = o.ratio()
	}
	for range o.r.IntN(4) {
		p.Monos = append(p.Monos, api.Mono{Var: o.number(), Coef: o.ratio()})
	}
	return p
}

// tableau gives a tableau.
func (o odd) tableau() api.Tableau {
	x := api.Tableau{}
	for range o.r.IntN(4) {
		x.Basic = append(x.Basic, o.number())
	}
	for range o.r.IntN(4) {
		x.Rows = append(x.Rows, o.sum())
	}
	for range o.r.IntN(6) {
		x.Values = append(x.Values, o.value())
	}
	for range o.r.IntN(6) {
		x.Lower = append(x.Lower, api.Edge{Lit: o.number(), At: o.value()})
		x.Upper = append(x.Upper, api.Edge{Lit: o.number(), At: o.value()})
	}
	return x
}

// problem gives a problem.
func (o odd) problem() api.Problem {
	p := api.Problem{Bools: o.number(), Reals: o.number()}
	for range o.r.IntN(4) {
		p.Rows = append(p.Rows, o.sum())
	}
	p.Atoms = []api.Atom{{Bool: o.number(), Var: o.number(), Row: o.number(), Bound: o.value()}}
	p.Clauses, p.Lits, p.Polys = [][]int{{o.number()}}, oddInts(), []api.Poly{o.sum()}
	return p
}

// answers gives what all calls answer, at tableaux that seldom are right, as a text.
func answers(seed uint64, count int) string {
	o := newOdd(seed)
	var out strings.Builder
	kept := nat.New(2)
	for range count {
		p := o.problem()
		x, y := o.tableau(), tableau.New(p)
		fmt.Fprintln(&out, len(y.Values), tableau.Right(x), tableau.Right(y), tableau.Same(x, y), tableau.Same(x, x), tableau.Same(y, x))
		for range 3 {
			v, row, number := o.number(), o.number(), o.value()
			fmt.Fprintln(&out, tableau.Row(x, v), tableau.Row(y, v))
			for _, b := range []*nat.Bench{nat.New(9), nat.New(math.MinInt), kept} {
				fmt.Fprintln(&out, tableau.Update(b, &x, v, number), tableau.Pivot(b, &x, row, v), x)
				fmt.Fprintln(&out, tableau.Update(b, &y, v, number), tableau.Pivot(b, &y, row, v), len(y.Values), y.Rows)
			}
		}
	}
	return out.String()
}

// P1: a call that panics ends the test, one that doesn't end is cut off.
func TestP1NoCallPanics(t *testing.T) {
	defer func() {
		if e := recover(); e != nil {
			t.Errorf("a call panics: %v", e)
		}
	}()
	for seed := range uint64(20) {
		answers(seed, 300)
	}
}

// P2: the same calls give the same answers, whatever goes on between them.
func TestP2SameCalls(t *testing.T) {
	first := answers(99, 200)
	answers(98, 20)
	if answers(99, 200) != first {
		t.Error("the same calls answer otherwise")
	}
}

// P1: a tableau on which a bench became over is one that calls end on.
func TestP1BehindOver(t *testing.T) {
	o := newOdd(7)
	overs := 0
	for range 2000 {
		x := someTableau(o.r, 7, 3)
		b := nat.New(1)
		for range 6 {
			row, v, ok := turns(o.r, x)
			if !ok {
				break
			}
			if tableau.Pivot(b, &x, row, v) == api.ErrOver {
				overs++
			}
			tableau.Update(b, &x, o.r.IntN(len(x.Values)), someValue(o.r, 3))
			tableau.Right(x)
			tableau.Same(x, x)
		}
	}
	if overs < 300 {
		t.Errorf("%d are over", overs)
	}
}
