package cnf_test

import (
	"math"
	"slices"
	"testing"

	"steelyard/api"
	"steelyard/cnf"
	"steelyard/ratio"
)

// poly gives a sum of a number, and of unknowns once each.
func poly(number int64, unknowns ...int) api.Poly {
	p := api.Poly{Const: ratio.Of(number)}
	for _, v := range unknowns {
		p.Monos = append(p.Monos, api.Mono{Var: v, Coef: ratio.Of(1)})
	}
	return p
}

// good gives a problem of all kinds of parts, that is right.
func good() api.Problem {
	return api.Problem{
		Bools: 5, Reals: 3,
		Rows: []api.Poly{poly(0, 0, 2), poly(0, 0, 1, 2)},
		Atoms: []api.Atom{
			{Bool: 4, Var: 2, Row: -1, Bound: api.Delta{A: value("-3/2")}},
			{Bool: 0, Row: 1, Bound: api.Delta{A: value("7"), B: value("-1")}},
			{Bool: 2, Row: -1},
		},
		Clauses: [][]int{{1}, {}, {5, -5, 3}, {-1, -1}},
		Lits:    []int{1, 0}, Polys: []api.Poly{{}, poly(3, 1)},
	}
}

// rights tells an error, if a problem isn't right, or is, when it should.
func rights(t *testing.T, what string, p api.Problem, want bool) {
	t.Helper()
	if got := cnf.Right(p); got != want {
		t.Errorf("%s: %v", what, got)
	}
}

func TestP132Right(t *testing.T) {
	rights(t, "nothing", api.Problem{}, true)
	rights(t, "empty lists", api.Problem{Rows: []api.Poly{}, Atoms: []api.Atom{}, Clauses: [][]int{{}, nil}, Lits: []int{}, Polys: []api.Poly{}}, true)
	rights(t, "all kinds", good(), true)
	p := good()
	p.Bools, p.Reals = math.MaxInt, math.MaxInt
	p.Clauses = append(p.Clauses, []int{math.MaxInt, -math.MaxInt})
	p.Atoms = append(p.Atoms, api.Atom{Bool: math.MaxInt - 1, Row: -1, Var: math.MaxInt - 1})
	p.Rows = append(p.Rows, poly(0, 7, math.MaxInt-1))
	rights(t, "many truths and numbers", p, true)
}

// Literals and sums of nodes don't matter; nor whether rows are as they are built.
func TestP132DontMatter(t *testing.T) {
	p := good()
	p.Lits, p.Polys = []int{0, 99, math.MinInt}, []api.Poly{{Const: oddRatios()[0]}, poly(1, 5, 5, -1)}
	rights(t, "other nodes", p, true)
	p.Lits, p.Polys = nil, nil
	rights(t, "no nodes", p, true)
	p.Rows = append(p.Rows, p.Rows[0], api.Poly{Monos: []api.Mono{{Var: 1, Coef: value("-2/3")}, {Var: 2, Coef: value("5")}}})
	rights(t, "a row twice, and not its Normal", p, true)
	p.Atoms = append(p.Atoms, api.Atom{Bool: 1, Row: -1}, api.Atom{Bool: 3, Row: 3})
	rights(t, "an atom that there is, of another truth", p, true)
	p.Clauses = append(p.Clauses, p.Clauses...)
	rights(t, "clauses twice", p, true)
}

func TestP132Counts(t *testing.T) {
	for _, n := range []int{-1, math.MinInt} {
		rights(t, "truths below 0", api.Problem{Bools: n}, false)
		rights(t, "numbers below 0", api.Problem{Reals: n}, false)
	}
	p := good()
	p.Bools = 4
	rights(t, "fewer truths", p, false)
	p = good()
	p.Reals = 2
	rights(t, "fewer numbers", p, false)
}

func TestP132Rows(t *testing.T) {
	one, two := api.Mono{Var: 0, Coef: ratio.Of(1)}, api.Mono{Var: 1, Coef: ratio.Of(2)}
	for what, q := range map[string]api.Poly{
		"none":                {},
		"one unknown":         poly(0, 1),
		"a number":            poly(1, 0, 1),
		"no such unknown":     poly(0, 0, 3),
		"the greatest one":    poly(0, 0, math.MaxInt),
		"below 0":             poly(0, -1, 0),
		"not rising":          poly(0, 1, 0),
		"twice":               poly(0, 1, 1),
		"0 times":             {Monos: []api.Mono{one, two, {Var: 2}}},
		"0 times of two":      {Monos: []api.Mono{one, {Var: 2}}},
		"a Coef's form":       {Monos: []api.Mono{one, {Var: 2, Coef: made(false, api.Nat{2}, api.Nat{4})}}},
		"a Const's form":      {Const: made(true, nil, nil), Monos: []api.Mono{one, two}},
		"a Const's form of 0": {Const: made(false, nil, api.Nat{5}), Monos: []api.Mono{one, two}},
		"a number below 0":    poly(-1, 0, 1),
	} {
		for place := range 3 {
			p := good()
			p.Rows = slices.Insert(p.Rows, place, q)
			rights(t, what, p, false)
		}
	}
}

func TestP132Atoms(t *testing.T) {
	zero, less := api.Delta{A: ratio.Of(1)}, api.Delta{A: ratio.Of(1), B: ratio.Of(-1)}
	for what, a := range map[string]api.Atom{
		"no such truth":          {Bool: 5, Row: -1, Bound: zero},
		"a truth below 0":        {Bool: -1, Row: -1, Bound: zero},
		"the least truth":        {Bool: math.MinInt, Row: -1, Bound: zero},
		"a truth twice":          {Bool: 4, Row: -1, Bound: zero},
		"a truth of a row twice": {Bool: 0, Row: -1, Bound: zero},
		"no such number":         {Bool: 1, Row: -1, Var: 3, Bound: zero},
		"a number below 0":       {Bool: 1, Row: -1, Var: -1, Bound: less},
		"no such row":            {Bool: 1, Row: 2, Bound: less},
		"a row below -1":         {Bool: 1, Row: -2, Bound: less},
		"the least row":          {Bool: 1, Row: math.MinInt, Bound: less},
		"a row and a number":     {Bool: 1, Row: 0, Var: 1, Bound: less},
		"a row and one below 0":  {Bool: 1, Row: 0, Var: -1, Bound: less},
		"B is 1":                 {Bool: 1, Row: -1, Bound: api.Delta{B: ratio.Of(1)}},
		"B is -2":                {Bool: 1, Row: -1, Bound: api.Delta{B: ratio.Of(-2)}},
		"B is -1/2":              {Bool: 1, Row: 0, Bound: api.Delta{B: value("-1/2")}},
		"B is great":             {Bool: 1, Row: -1, Bound: api.Delta{B: ratio.Neg(power(32, 1))}},
	} {
		for place := range 4 {
			p := good()
			p.Atoms = slices.Insert(p.Atoms, place, a)
			rights(t, what, p, false)
		}
	}
	for _, x := range oddRatios() {
		p := good()
		p.Atoms = append(p.Atoms, api.Atom{Bool: 1, Row: -1, Bound: api.Delta{A: x}})
		rights(t, "A's form", p, false)
		p.Atoms[3].Bound = api.Delta{B: x}
		rights(t, "B's form", p, false)
	}
	p := good()
	p.Atoms[0].Bound.B = made(true, api.Nat{1}, api.Nat{1})
	rights(t, "-1 in another form", p, false)
	p = good()
	p.Rows = nil
	rights(t, "no rows", p, false)
	p = good()
	p.Atoms = append(p.Atoms, api.Atom{Bool: 1, Row: 0, Bound: less}, api.Atom{Bool: 3, Row: -1, Var: 2, Bound: zero})
	rights(t, "each truth but one", p, true)
}

func TestP132Clauses(t *testing.T) {
	for _, lit := range []int{0, 6, -6, 7, math.MaxInt, math.MinInt, math.MinInt + 1} {
		for _, clause := range [][]int{{lit}, {1, lit}, {lit, -5}, {1, -2, lit, 3}} {
			for place := range 5 {
				p := good()
				p.Clauses = slices.Insert(p.Clauses, place, clause)
				rights(t, "a literal", p, false)
			}
		}
	}
	rights(t, "no truths", api.Problem{Clauses: [][]int{{1}}}, false)
	rights(t, "no truths", api.Problem{Clauses: [][]int{{-1}}}, false)
}

// Of many atoms, two that are one truth are told, wherever they stand.
func TestP132ManyAtoms(t *testing.T) {
	const count = 200_000
	p := api.Problem{Bools: count, Reals: 1}
	for v := range count {
		p.Atoms = append(p.Atoms, api.Atom{Bool: v * 7919 % count, Row: -1})
	}
	rights(t, "many", p, true)
	for _, places := range [][2]int{{0, 1}, {0, count - 1}, {count / 2, 5}} {
		other := p
		other.Atoms = slices.Clone(p.Atoms)
		other.Atoms[places[0]].Bool = other.Atoms[places[1]].Bool
		rights(t, "one twice", other, false)
	}
}
