package farkas_test

import (
	"fmt"
	"math"
	"math/rand/v2"
	"strings"
	"testing"

	"steelyard/api"
	"steelyard/farkas"
	"steelyard/ratio"
)

// odd gives things by chance that seldom are right.
type odd struct {
	t       *testing.T
	r       *rand.Rand
	numbers []api.Ratio
}

// newOdd gives one that goes by a seed.
func newOdd(t *testing.T, seed uint64) odd {
	return odd{t, rand.New(rand.NewPCG(16, seed)), append(oddRatios(), api.Ratio{}, ratio.Of(1), ratio.Of(-3), ratio.Of(math.MinInt64))}
}

// number gives a number, most often a small one.
func (o odd) number() int {
	if o.r.IntN(6) == 0 {
		return pick(o.r, []int{math.MinInt, -2, -1, 0, 1, 2, 3, 4, 5, 1 << 32, math.MaxInt})
	}
	return o.r.IntN(5)
}

// ratio gives a ratio, often one that is in its one form.
func (o odd) ratio() api.Ratio {
	if o.r.IntN(3) == 0 {
		return pick(o.r, o.numbers)
	}
	return ratio.Of(o.r.Int64N(5) - 2)
}

// sum gives a sum.
func (o odd) sum() api.Poly {
	p := api.Poly{}
	if o.r.IntN(3) == 0 {
		p.Const = o.ratio()
	}
	for range o.r.IntN(4) {
		p.Monos = append(p.Monos, api.Mono{Var: o.number(), Coef: o.ratio()})
	}
	return p
}

// problem gives a problem of odd things.
func (o odd) problem() api.Problem {
	p := api.Problem{Bools: o.number(), Reals: o.number()}
	for range o.r.IntN(3) {
		p.Rows = append(p.Rows, o.sum())
	}
	for range o.r.IntN(4) {
		p.Atoms = append(p.Atoms, api.Atom{Bool: o.number(), Var: o.number(), Row: o.number() - 1, Bound: api.Delta{A: o.ratio(), B: o.ratio()}})
	}
	for range o.r.IntN(3) {
		p.Clauses = append(p.Clauses, []int{o.number(), o.number()})
	}
	return p
}

// nearly gives a problem that is right, but where now and then one thing of it is odd.
func (o odd) nearly() api.Problem {
	p := someProblem(o.t, o.r)
	atom := &p.Atoms[o.r.IntN(len(p.Atoms))]
	switch o.r.IntN(12) {
	case 0:
		p.Bools = o.number()
	case 1:
		p.Reals = o.number()
	case 2:
		atom.Bool = o.number()
	case 3:
		atom.Var = o.number()
	case 4:
		atom.Row = o.number()
	case 5:
		atom.Bound = api.Delta{A: o.ratio(), B: o.ratio()}
	case 6:
		p.Rows = append(p.Rows, o.sum())
	case 7:
		p.Rows = p.Rows[:len(p.Rows)/2]
	}
	return p
}

// reasons gives reasons of odd literals, and odd Coefs.
func (o odd) reasons() []api.Reason {
	var list []api.Reason
	for range o.r.IntN(6) {
		r := api.Reason{Lit: o.number(), Coef: o.ratio()}
		if o.r.IntN(2) == 0 {
			r.Lit = -r.Lit
		}
		list = append(list, r)
	}
	return list
}

// answers gives what all calls answer, at things that seldom are right, as a text.
func answers(t *testing.T, seed uint64, count int) string {
	o := newOdd(t, seed)
	var out strings.Builder
	for range count {
		for _, p := range []api.Problem{o.problem(), o.nearly()} {
			for range 3 {
				list := o.reasons()
				fmt.Fprintln(&out, farkas.Holds(p, list), farkas.Least(p, list))
			}
		}
	}
	return out.String()
}

// P1: a call that panics ends the test, one that doesn't end is cut off.
func TestP1NoCallPanics(t *testing.T) {
	defer func() {
		if e := recover(); e != nil {
			t.Errorf("a call panics: %v", e)
		}
	}()
	for seed := range uint64(20) {
		answers(t, seed, 1000)
	}
}

// P2: the same calls give the same answers, whatever goes on between them.
func TestP2SameCalls(t *testing.T) {
	first := answers(t, 99, 1000)
	answers(t, 98, 100)
	if answers(t, 99, 1000) != first {
		t.Error("the same calls answer otherwise")
	}
}

// Rule 3: lists without elements are one, however they are told.
func TestNoElements(t *testing.T) {
	none := api.Ratio{Num: api.Whole{Mag: api.Nat{}}, Den: api.Nat{}}
	p := api.Problem{Bools: 1, Reals: 1, Rows: []api.Poly{}, Atoms: []api.Atom{{Row: -1, Bound: api.Delta{A: none, B: none}}}, Clauses: [][]int{}, Lits: []int{}, Polys: []api.Poly{}}
	if farkas.Holds(p, nil) || farkas.Holds(p, []api.Reason{}) || len(farkas.Least(p, nil)) > 0 || len(farkas.Least(p, []api.Reason{})) > 0 || farkas.Holds(api.Problem{}, []api.Reason{}) {
		t.Error("no reasons")
	}
	one := api.Ratio{Num: api.Whole{Mag: api.Nat{1}}, Den: api.Nat{}}
	both := []api.Reason{{Lit: 1, Coef: one}, {Lit: -1, Coef: one}, {Lit: 1, Coef: none}}
	if !farkas.Holds(p, both) || why(farkas.Least(p, both)) != "1@1 1@-1" || farkas.Holds(p, both[:1]) {
		t.Error("noughts")
	}
}
