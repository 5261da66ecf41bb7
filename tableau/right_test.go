package tableau_test

import (
	"math"
	"math/rand/v2"
	"slices"
	"testing"

	"steelyard/api"
	"steelyard/delta"
	"steelyard/nat"
	"steelyard/ratio"
	"steelyard/tableau"
)

func TestP141Right(t *testing.T) {
	for _, s := range []string{
		" | ", " | 1", " | 1/2-1d 0 -7", "1: 1@0 | 0 0", "1: 1@0 | 5 5", "0: -2@1 | -3+4d 3/2-2d", "1: | 7 0", "0: ; 1: | 0 0",
		"2: 1@0 2@1; 3: 1@0 -1@1 | 0 5 10 -5", "0: 1@3; 2: 1@1; 4: 1@1 1@3 | 2 1 1 2 3", "2: 1/3@0 1/3@1 | 1+1d 1-1d 2/3",
		// Bounds may be any: crossed, not kept, told by the same literal.
		"1: 1@0 | 5 5 | 3@6 3@7 | 3@1 -3@2", " | 0 | 9@1/2-1/3d | -", " | 0 | -9@-1 | 9@0",
		// What is reckoned on the way may be greater than all that is there.
		"2: 18446744073709551616@0 -18446744073709551616@1 | 18446744073709551616 18446744073709551616 0",
		"2: 1/18446744073709551557@0 1/18446744073709551533@1 | 18446744073709551557 18446744073709551533 2",
	} {
		if !tableau.Right(read(t, s)) {
			t.Errorf("%s isn't right", s)
		}
	}
	if !tableau.Right(rich(t)) {
		t.Errorf("%s isn't right", show(rich(t)))
	}
	for _, s := range []string{
		// no such unknown; basic twice; a row of what is basic, of itself, of another row; of what isn't there
		"2: 1@0 | 0 0", "-1: 1@0 | 0 0", "9223372036854775807: 1@0 | 0 0", "-9223372036854775808: 1@0 | 0 0",
		"1: 1@0; 1: 1@0 | 0 0", "0: ; 1: ; 0: | 0 0 0", "1: 1@1 | 0 0", "1: 1@0 1@1 | 0 0", "0: 1@1; 1: 1@2 | 0 0 0", "1: 1@2; 0: 1@1 1@2 | 0 0 0",
		"1: 1@2 | 0 0", "1: 1@0 1@9223372036854775807 | 0 0", "0: 1@1 | 0",
		// not as a sum must be
		"1: 1@-1 1@0 | 0 0", "2: 1@1 1@0 | 0 0 0", "1: 1@0 1@0 | 0 0", "1: 0@0 | 0 0", "2: 1@0 0@1 | 0 0 0",
		// a value that isn't its row's
		"1: 1@0 | 1 0", "1: 1@0 | 0 1", "1: 1@0 | 1+1d 1", "1: 1@0 | 1 1-1d", "1: 1@0 | 1 -1", "1: | 1 1", "1: | 1 0+1d", "2: 1@0 2@1; 3: 1@0 -1@1 | 0 5 10 5", "2: 1@0 2@1; 3: 1@0 -1@1 | 0 5 5 -5",
		"2: 18446744073709551616@0 -18446744073709551616@1 | 18446744073709551616 18446744073709551616 1",
		// bounds that aren't there
		" | 0 | 0@1 | -", " | 0 | - | 0@-1", " | 0 | 0@0+1d | -", " | 0 | - | 0@0-1d", " | 0 0 | - 0@1/2 | - -",
	} {
		if tableau.Right(read(t, s)) {
			t.Errorf("%s is right", s)
		}
	}
}

// Lists that aren't as long as they must be.
func TestP141RightLengths(t *testing.T) {
	for what, change := range map[string]func(x *api.Tableau){
		"a Basic more":     func(x *api.Tableau) { x.Basic = append(x.Basic, 3) },
		"a Basic less":     func(x *api.Tableau) { x.Basic = x.Basic[:2] },
		"no Basic":         func(x *api.Tableau) { x.Basic = nil },
		"a row more":       func(x *api.Tableau) { x.Rows = append(x.Rows, api.Poly{}) },
		"a row less":       func(x *api.Tableau) { x.Rows = x.Rows[:2] },
		"no rows":          func(x *api.Tableau) { x.Rows = nil },
		"a value more":     func(x *api.Tableau) { x.Values = append(x.Values, api.Delta{}) },
		"a value less":     func(x *api.Tableau) { x.Values = x.Values[:5] },
		"no values":        func(x *api.Tableau) { x.Values = nil },
		"a lower more":     func(x *api.Tableau) { x.Lower = append(x.Lower, api.Edge{}) },
		"a lower less":     func(x *api.Tableau) { x.Lower = x.Lower[:5] },
		"no lowers":        func(x *api.Tableau) { x.Lower = nil },
		"an upper more":    func(x *api.Tableau) { x.Upper = append(x.Upper, api.Edge{}) },
		"an upper less":    func(x *api.Tableau) { x.Upper = x.Upper[:5] },
		"no uppers":        func(x *api.Tableau) { x.Upper = nil },
		"both bounds more": func(x *api.Tableau) { x.Lower, x.Upper = append(x.Lower, api.Edge{}), append(x.Upper, api.Edge{}) },
		"a row's number":   func(x *api.Tableau) { x.Rows[1].Const = ratio.Of(1) },
		"a number and what is so": func(x *api.Tableau) {
			x.Rows[1].Const, x.Values[1].A = ratio.Of(1), ratio.Of(0)
		},
		"a number, in both parts": func(x *api.Tableau) {
			x.Rows[1].Const, x.Values[1] = ratio.Of(1), api.Delta{B: ratio.Of(1)}
		},
	} {
		x := rich(t)
		change(&x)
		if tableau.Right(x) {
			t.Errorf("%s: %v is right", what, x)
		}
	}
	x := rich(t)
	x.Basic, x.Rows = x.Basic[:2], x.Rows[:2]
	if !tableau.Right(x) {
		t.Errorf("%s isn't right", show(x))
	}
}

// A number that isn't in its one form makes a tableau wrong, wherever it stands.
func TestP141RightForms(t *testing.T) {
	for _, odd := range oddRatios() {
		for place := range 9 {
			x := copyOf(rich(t))
			list := []*api.Ratio{&x.Rows[0].Const, &x.Rows[1].Monos[0].Coef, &x.Rows[2].Monos[1].Coef, &x.Values[3].A, &x.Values[5].B, &x.Lower[0].At.A, &x.Lower[1].At.B, &x.Upper[4].At.B, &x.Upper[5].At.A}
			*list[place] = odd
			if tableau.Right(x) {
				t.Errorf("%v at %d is right", odd, place)
			}
		}
	}
}

// A tableau of chance is right till one thing of it isn't.
func TestP141RightByChance(t *testing.T) {
	r := rand.New(rand.NewPCG(14, 2))
	b := nat.New(1000)
	wrongs := 0
	for range 3000 {
		x := someTableau(r, 9, 3)
		if !tableau.Right(x) {
			t.Fatalf("%s isn't right", show(x))
		}
		v := r.IntN(len(x.Values))
		moved := tableau.Row(x, v) >= 0
		for i, p := range x.Rows {
			moved = moved || x.Basic[i] == v || slices.ContainsFunc(p.Monos, func(m api.Mono) bool { return m.Var == v })
		}
		more := []api.Delta{{A: ratio.Of(1)}, {B: ratio.Of(-1)}, {A: number(t, "1/18446744073709551616")}}[r.IntN(3)]
		x.Values[v] = delta.Add(b, x.Values[v], more)
		if tableau.Right(x) == moved {
			t.Fatalf("%d of %s is another one: %v", v, show(x), tableau.Right(x))
		}
		if moved {
			wrongs++
		}
	}
	if wrongs < 1000 {
		t.Errorf("%d are wrong", wrongs)
	}
}

// Of many unknowns, one that is basic twice, or in a row though it is basic, is told.
func TestP141RightOfMany(t *testing.T) {
	const count = 100_000
	p := api.Problem{Reals: count}
	for v := range count - 1 {
		p.Rows = append(p.Rows, api.Poly{Monos: []api.Mono{{Var: v, Coef: ratio.Of(1)}, {Var: v + 1, Coef: ratio.Of(2)}}})
	}
	x := tableau.New(p)
	if !tableau.Right(x) {
		t.Error("many rows aren't right")
	}
	for _, v := range []int{count, 2*count - 3, 0, math.MaxInt} {
		y := x
		y.Basic = slices.Clone(x.Basic)
		y.Basic[count/2] = v
		if tableau.Right(y) {
			t.Errorf("%d in the middle is right", v)
		}
	}
}
