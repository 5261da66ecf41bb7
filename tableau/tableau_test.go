package tableau_test

import (
	"math"
	"math/rand/v2"
	"slices"
	"strings"
	"testing"

	"steelyard/api"
	"steelyard/cnf"
	"steelyard/ratio"
	"steelyard/script"
	"steelyard/tableau"
)

func TestP141New(t *testing.T) {
	for _, c := range []struct {
		reals      int
		rows, want string
	}{
		{0, "", " | "}, {1, "", " | 0"}, {4, "", " | 0 0 0 0"},
		{2, "1@0 1@1", "2: 1@0 1@1 | 0 0 0"}, {5, "1@1 -2/3@4", "5: 1@1 -2/3@4 | 0 0 0 0 0 0"},
		{2, "1@0 2@1; 1@0 -1@1", "2: 1@0 2@1; 3: 1@0 -1@1 | 0 0 0 0"},
		{3, "1@1 1@2; 1@0 1@2; 1@0 18446744073709551616/3@1 1/18446744073709551615@2", "3: 1@1 1@2; 4: 1@0 1@2; 5: 1@0 18446744073709551616/3@1 1/18446744073709551615@2 | 0 0 0 0 0 0"},
		// A row may be there twice, and so it is.
		{2, "1@0 1@1; 1@0 1@1; 2@0 2@1", "2: 1@0 1@1; 3: 1@0 1@1; 4: 2@0 2@1 | 0 0 0 0 0"},
	} {
		p := problem(t, c.reals, c.rows)
		if !cnf.Right(p) {
			t.Fatalf("%v isn't right", p)
		}
		is(t, c.rows, tableau.New(p), c.want)
		// What else is in a problem doesn't matter.
		p.Bools, p.Atoms, p.Clauses = 3, []api.Atom{{Bool: 1, Row: len(p.Rows) - 1}}, [][]int{{1}, {-1}, {}}
		p.Lits, p.Polys = []int{1, 0}, []api.Poly{{}, sum(t, "1@0")}
		is(t, c.rows, tableau.New(p), c.want)
	}
}

func TestP141NewOfAScript(t *testing.T) {
	s, fault := script.Read([]byte("(set-logic QF_LRA)(declare-const x Real)(declare-const y Real)(declare-const z Real)(assert (< (+ x (* 2 y)) (- z y) 5))(assert (> x z))"), 4)
	if fault.Code != api.OK {
		t.Fatal(fault)
	}
	p, code := cnf.Build(s, 4)
	if code != api.OK {
		t.Fatal(code)
	}
	is(t, "a script's", tableau.New(p), "3: 1@0 3@1 -1@2; 4: 1@1 -1@2; 5: 1@0 -1@2 | 0 0 0 0 0 0")
}

// The size of a tableau hangs on the numbers' count, so one that can't be isn't made.
func TestP141NewOfWrongSizes(t *testing.T) {
	for _, reals := range []int{-1, -2, math.MinInt, 1 << 31, 1 << 40, 1 << 58, math.MaxInt - 1, math.MaxInt} {
		for _, rows := range []string{"", "1@0 1@1", "1@0 1@1; 1@0 2@1; 1@0 3@1"} {
			if x := tableau.New(problem(t, reals, rows)); len(x.Basic)+len(x.Rows)+len(x.Values)+len(x.Lower)+len(x.Upper) > 0 {
				t.Errorf("%d numbers: %d unknowns", reals, len(x.Values))
			}
		}
	}
	const many = 200_000
	if x := tableau.New(problem(t, many, "1@0 1@199999")); len(x.Values) != many+1 || !tableau.Right(x) || tableau.Row(x, many) != 0 {
		t.Errorf("%d unknowns", len(x.Values))
	}
}

func TestP141Row(t *testing.T) {
	for _, c := range []struct {
		text string
		v    int
		want int
	}{
		{"2: 1@0 2@1; 3: 1@0 -1@1 | 0 0 0 0", 2, 0}, {"2: 1@0 2@1; 3: 1@0 -1@1 | 0 0 0 0", 3, 1}, {"2: 1@0 2@1; 3: 1@0 -1@1 | 0 0 0 0", 0, -1}, {"2: 1@0 2@1; 3: 1@0 -1@1 | 0 0 0 0", 1, -1},
		{"2: 1@0 2@1; 3: 1@0 -1@1 | 0 0 0 0", 4, -1}, {"2: 1@0 2@1 | 0 0 0", -1, -1}, {"2: 1@0 2@1 | 0 0 0", math.MinInt, -1}, {"2: 1@0 2@1 | 0 0 0", math.MaxInt, -1},
		{"1: 1@4; 3: 2@2; 0: 1@2 1@4 | 0 0 0 0 0", 0, 2}, {"1: 1@4; 3: 2@2; 0: 1@2 1@4 | 0 0 0 0 0", 1, 0}, {"1: 1@4; 3: 2@2; 0: 1@2 1@4 | 0 0 0 0 0", 3, 1},
		{" | ", 0, -1}, {" | 0 0", 1, -1},
		// The first one is told, where there are more; such a tableau isn't right.
		{"0: ; 1: ; 2: ; 1: ; 2: | 0 0 0", 1, 1}, {"0: ; 1: ; 2: ; 1: ; 2: | 0 0 0", 2, 2},
	} {
		if row := tableau.Row(read(t, c.text), c.v); row != c.want {
			t.Errorf("%s: %d is of %d, not %d", c.text, c.v, row, c.want)
		}
	}
}

// rich gives a right tableau that has something everywhere.
func rich(t *testing.T) api.Tableau {
	return read(t, "4: 1@0 2@2; 1: -1/2@0; 5: 1/3@2 18446744073709551616@3 | 2 -1 3/2-1d 1/18446744073709551616 5-2d 3/2-1/3d | 3@1 - - -7@5+1d - -1@2/3 | - 2@-1/2-1d 3@1 - 9@5 -")
}

func TestP141Same(t *testing.T) {
	if !tableau.Same(rich(t), rich(t)) || !tableau.Same(api.Tableau{}, api.Tableau{}) || tableau.Same(rich(t), api.Tableau{}) || tableau.Same(api.Tableau{}, rich(t)) {
		t.Error("Same of one and the same, or of nothing")
	}
	for what, change := range map[string]func(x *api.Tableau){
		"a Basic":            func(x *api.Tableau) { x.Basic[1] = 3 },
		"Basics' order":      func(x *api.Tableau) { x.Basic[0], x.Basic[1] = x.Basic[1], x.Basic[0] },
		"a Basic more":       func(x *api.Tableau) { x.Basic = append(x.Basic, 2) },
		"a Basic less":       func(x *api.Tableau) { x.Basic = x.Basic[:2] },
		"a row's unknown":    func(x *api.Tableau) { x.Rows[1].Monos[0].Var = 2 },
		"how often":          func(x *api.Tableau) { x.Rows[2].Monos[1].Coef = ratio.Of(1) },
		"how often, below 0": func(x *api.Tableau) { x.Rows[0].Monos[0].Coef = ratio.Of(-1) },
		"a row's number":     func(x *api.Tableau) { x.Rows[0].Const = ratio.Of(1) },
		"a row more":         func(x *api.Tableau) { x.Rows = append(x.Rows, api.Poly{}) },
		"an unknown less":    func(x *api.Tableau) { x.Rows[2].Monos = x.Rows[2].Monos[:1] },
		"a row less":         func(x *api.Tableau) { x.Rows = x.Rows[:2] },
		"rows' order":        func(x *api.Tableau) { x.Rows[0], x.Rows[1] = x.Rows[1], x.Rows[0] },
		"a value":            func(x *api.Tableau) { x.Values[0].A = ratio.Of(3) },
		"a value's delta":    func(x *api.Tableau) { x.Values[2].B = ratio.Of(1) },
		"the last value":     func(x *api.Tableau) { x.Values[5] = api.Delta{} },
		"a value more":       func(x *api.Tableau) { x.Values = append(x.Values, api.Delta{}) },
		"a lower's literal":  func(x *api.Tableau) { x.Lower[0].Lit = -3 },
		"a lower bound":      func(x *api.Tableau) { x.Lower[0].At.A = ratio.Of(2) },
		"a lower's delta":    func(x *api.Tableau) { x.Lower[3].At.B = ratio.Of(2) },
		"no lower bound":     func(x *api.Tableau) { x.Lower[5] = api.Edge{} },
		"a lower more":       func(x *api.Tableau) { x.Lower = append(x.Lower, api.Edge{}) },
		"an upper's literal": func(x *api.Tableau) { x.Upper[4].Lit = 8 },
		"an upper bound":     func(x *api.Tableau) { x.Upper[4].At.A = ratio.Of(4) },
		"an upper's delta":   func(x *api.Tableau) { x.Upper[1].At.B = api.Ratio{} },
		"a new upper":        func(x *api.Tableau) { x.Upper[0] = api.Edge{Lit: 4} },
		"an upper less":      func(x *api.Tableau) { x.Upper = x.Upper[:5] },
		"both bounds":        func(x *api.Tableau) { x.Lower, x.Upper = x.Upper, x.Lower },
	} {
		x := rich(t)
		change(&x)
		if tableau.Same(x, rich(t)) || tableau.Same(rich(t), x) || !tableau.Same(x, copyOf(x)) {
			t.Errorf("%s: %s", what, show(x))
		}
	}
}

// Tableaux of chance are the same just where their texts are.
func TestP141SameByChance(t *testing.T) {
	r := rand.New(rand.NewPCG(14, 1))
	list := []api.Tableau{{}}
	for range 150 {
		x := someTableau(r, 2, 1)
		list = append(list, x, copyOf(x))
	}
	for _, x := range list {
		for _, y := range list {
			if tableau.Same(x, y) != (show(x) == show(y)) {
				t.Errorf("%s and %s: %v", show(x), show(y), tableau.Same(x, y))
			}
		}
	}
}

// Rule 3: lists without elements are one, however they are told.
func TestNoElements(t *testing.T) {
	none := api.Ratio{Num: api.Whole{Mag: api.Nat{}}, Den: api.Nat{}}
	x := api.Tableau{Basic: []int{}, Rows: []api.Poly{}, Values: []api.Delta{}, Lower: []api.Edge{}, Upper: []api.Edge{}}
	if !tableau.Same(x, api.Tableau{}) || !tableau.Right(x) || !tableau.Right(api.Tableau{}) {
		t.Error("nothing")
	}
	x = read(t, "1: | 0 0")
	y := copyOf(x)
	y.Rows[0] = api.Poly{Const: none, Monos: []api.Mono{}}
	y.Values[0], y.Lower[0].At, y.Upper[1].At = api.Delta{A: none, B: none}, api.Delta{A: none}, api.Delta{B: none}
	if !tableau.Same(x, y) || !tableau.Right(y) {
		t.Errorf("%s", show(y))
	}
	if z := tableau.New(api.Problem{Reals: 1, Rows: []api.Poly{}, Atoms: []api.Atom{}}); !tableau.Right(z) || !strings.HasPrefix(show(z), " | 0 |") {
		t.Errorf("%s", show(z))
	}
	if !slices.Equal(tableau.New(api.Problem{}).Basic, nil) {
		t.Error("New of nothing")
	}
}
