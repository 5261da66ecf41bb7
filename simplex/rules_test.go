package simplex_test

import (
	"fmt"
	"math"
	"math/rand/v2"
	"strings"
	"testing"

	"steelyard/api"
	"steelyard/nat"
	"steelyard/ratio"
	"steelyard/simplex"
	"steelyard/tableau"
)

// oddInts gives numbers at the edges.
func oddInts() []int {
	return []int{math.MinInt, -2, -1, 0, 1, 2, 3, 4, 5, 1 << 32, math.MaxInt}
}

// pick gives one of a list.
func pick[T any](r *rand.Rand, list []T) T { return list[r.IntN(len(list))] }

// odd gives things by chance that seldom are right.
type odd struct {
	r       *rand.Rand
	numbers []api.Ratio
}

// newOdd gives one that goes by a seed.
func newOdd(seed uint64) odd {
	return odd{rand.New(rand.NewPCG(15, seed)), append(oddRatios(), api.Ratio{}, ratio.Of(1), ratio.Of(-3), ratio.Of(math.MinInt64))}
}

// number gives the number of an unknown, most often a small one.
func (o odd) number() int {
	if o.r.IntN(6) == 0 {
		return pick(o.r, oddInts())
	}
	return o.r.IntN(5)
}

// ratio gives a ratio, often one that is in its one form.
func (o odd) ratio() api.Ratio {
	if o.r.IntN(3) == 0 {
		return pick(o.r, o.numbers)
	}
	return ratio.Of(o.r.Int64N(5) - 2)
}

// value gives a number with a delta.
func (o odd) value() api.Delta { return api.Delta{A: o.ratio(), B: o.ratio()} }

// edge gives a bound.
func (o odd) edge() api.Edge { return api.Edge{Lit: o.number(), At: o.value()} }

// sum gives a sum.
func (o odd) sum() api.Poly {
	p := api.Poly{}
	if o.r.IntN(3) == 0 {
		p.Const = o.ratio()
	}
	for range o.r.IntN(4) {
		p.Monos = append(p.Monos, api.Mono{Var: o.number(), Coef: o.ratio()})
	}
	return p
}

// tableau gives a tableau, often one whose lists are as long as they should be.
func (o odd) tableau() api.Tableau {
	x := api.Tableau{}
	rows, unknowns := o.r.IntN(4), o.r.IntN(6)
	about := func(n int) int { return max(0, n+max(-1, o.r.IntN(5)-3)) }
	for range about(rows) {
		x.Basic = append(x.Basic, o.number())
	}
	for range about(rows) {
		x.Rows = append(x.Rows, o.sum())
	}
	for range about(unknowns) {
		x.Values = append(x.Values, o.value())
	}
	for range about(unknowns) {
		x.Lower = append(x.Lower, o.edge())
	}
	for range about(unknowns) {
		x.Upper = append(x.Upper, o.edge())
	}
	return x
}

// nearly gives a tableau that is right, but where one thing of it is odd.
func (o odd) nearly() api.Tableau {
	x := copyOf(anyTableau(o.r, 6, 1))
	v := o.r.IntN(len(x.Values))
	switch o.r.IntN(7) {
	case 0:
		x.Values[v] = o.value()
	case 1:
		x.Lower[v], x.Upper[o.r.IntN(len(x.Upper))] = o.edge(), o.edge()
	case 2:
		x.Lower = x.Lower[:v]
	case 3:
		x.Upper = x.Upper[:v]
	case 4:
		x.Values = x.Values[:v]
	case 5:
		for i := range x.Basic {
			x.Basic[i] = o.number()
		}
	default:
		for i := range x.Rows {
			x.Rows[i] = o.sum()
		}
	}
	return x
}

// answers gives what all calls answer, at tableaux that seldom are right, as a text.
func answers(seed uint64, count int) string {
	o := newOdd(seed)
	var out strings.Builder
	say := func(list ...any) { fmt.Fprintln(&out, list...) }
	kept := nat.New(2)
	for range count {
		x, y := o.tableau(), o.nearly()
		for _, b := range []*nat.Bench{nat.New(9), nat.New(math.MinInt), kept, nat.New(math.MaxInt)} {
			for _, z := range []*api.Tableau{&x, &y} {
				for range 3 {
					list, code := simplex.Bound(b, z, o.number(), o.r.IntN(2) == 0, o.edge())
					say(why(list), code)
				}
				state, list, code := simplex.Step(b, z)
				say(state, why(list), code, *z)
				list, code = simplex.Check(b, z)
				say(why(list), code, *z)
			}
		}
		p := api.Problem{Bools: o.number(), Reals: o.number()}
		a := api.Atom{Bool: o.number(), Var: o.number(), Row: o.number(), Bound: o.value()}
		for _, lit := range append(oddInts(), o.number(), -o.number()) {
			say(simplex.Literal(p, a, lit))
		}
	}
	return out.String()
}

// P1: a call that panics ends the test, one that doesn't end is cut off.
func TestP1NoCallPanics(t *testing.T) {
	defer func() {
		if e := recover(); e != nil {
			t.Errorf("a call panics: %v", e)
		}
	}()
	for seed := range uint64(20) {
		answers(seed, 300)
	}
}

// P2: the same calls give the same answers, whatever goes on between them.
func TestP2SameCalls(t *testing.T) {
	first := answers(99, 200)
	answers(98, 20)
	if answers(99, 200) != first {
		t.Error("the same calls answer otherwise")
	}
}

// P1: where steps go round for ever, on a tableau that isn't right, Check ends.
func TestP1CheckEnds(t *testing.T) {
	none := api.Delta{A: api.Ratio{Num: api.Whole{Mag: api.Nat{5}}, Den: api.Nat{0}}}
	for _, limbs := range []int{1, 9, math.MaxInt} {
		x := read(t, "1: 1@0 | 0 0 | 1@1 2@1 | - -")
		x.Lower[0].At, x.Lower[1].At = none, none
		b := nat.New(limbs)
		for range 1000 {
			if state, _, code := simplex.Step(b, &x); state != simplex.Moved || code != api.OK {
				t.Fatalf("%d, %v: steps come to an end", state, code)
			}
		}
		simplex.Check(b, &x)
	}
}

// P1: a tableau on which a bench became over is one that calls end on.
func TestP1BehindOver(t *testing.T) {
	r := rand.New(rand.NewPCG(15, 6))
	overs := 0
	for range 3000 {
		x := anyTableau(r, 7, 3)
		for range 3 {
			b := nat.New(1)
			for range 4 {
				_, one := simplex.Bound(b, &x, r.IntN(len(x.Values)), r.IntN(2) == 0, api.Edge{Lit: 7, At: someValue(r, 3)})
				_, _, other := simplex.Step(b, &x)
				if _, code := simplex.Check(b, &x); code == api.ErrOver && (one == api.OK || other == api.OK) {
					overs++
				}
			}
		}
		simplex.Check(nat.New(1000), &x)
		tableau.Right(x)
	}
	if overs < 300 {
		t.Errorf("%d are over", overs)
	}
}

// Rule 3: lists without elements are one, however they are told.
func TestNoElements(t *testing.T) {
	none := api.Ratio{Num: api.Whole{Mag: api.Nat{}}, Den: api.Nat{}}
	b := nat.New(1)
	x := api.Tableau{Basic: []int{}, Rows: []api.Poly{}, Values: []api.Delta{}, Lower: []api.Edge{}, Upper: []api.Edge{}}
	if list, code := simplex.Check(b, &x); len(list) > 0 || code != api.OK {
		t.Errorf("nothing: %q, %v", why(list), code)
	}
	x = read(t, "1: 1@0 | 0 0 | - 4@0 | - 5@0")
	x.Values[0], x.Values[1], x.Lower[1].At, x.Upper[1].At = api.Delta{A: none, B: none}, api.Delta{B: none}, api.Delta{A: none}, api.Delta{B: none}
	if state, list, code := simplex.Step(b, &x); state != simplex.Settled || len(list) > 0 || code != api.OK {
		t.Errorf("noughts: %d, %q, %v", state, why(list), code)
	}
	if list, code := simplex.Bound(b, &x, 1, true, api.Edge{Lit: 7, At: api.Delta{A: none, B: none}}); len(list) > 0 || code != api.OK || x.Upper[1].Lit != 5 {
		t.Errorf("a nought: %q, %v", why(list), code)
	}
	if list, code := simplex.Bound(b, &x, 0, false, api.Edge{Lit: 7, At: api.Delta{A: none, B: none}}); len(list) > 0 || code != api.OK || !tableau.Right(x) {
		t.Errorf("a nought: %q, %v", why(list), code)
	}
	if _, upper, e := simplex.Literal(api.Problem{Rows: []api.Poly{}}, api.Atom{Row: -1, Bound: api.Delta{A: none, B: none}}, -1); upper || edgeText(e) != "-1@0+1d" || !ratio.Right(e.At.A) || !ratio.Right(e.At.B) {
		t.Errorf("a nought's: %s", edgeText(e))
	}
}
