package simplex_test

import (
	"math"
	"reflect"
	"testing"

	"steelyard/api"
	"steelyard/cnf"
	"steelyard/delta"
	"steelyard/ratio"
	"steelyard/simplex"
)

// atoms gives a problem of three numbers, two rows, and atoms of numbers and of rows.
func atoms(t *testing.T) api.Problem {
	t.Helper()
	p := api.Problem{Bools: 7, Reals: 3, Rows: []api.Poly{sum(t, "1@0 1@1"), sum(t, "1@1 -1/2@2")}, Atoms: []api.Atom{
		{Bool: 1, Var: 0, Row: -1, Bound: value(t, "5")}, {Bool: 2, Var: 2, Row: -1, Bound: value(t, "-2/3-1d")}, {Bool: 5, Row: 0, Bound: value(t, "0")},
		{Bool: 4, Row: 1, Bound: value(t, "0-1d")}, {Bool: 6, Row: 1, Bound: value(t, "18446744073709551616/3-1d")}, {Bool: 0, Var: 1, Row: -1, Bound: value(t, "-1/18446744073709551616")},
	}}
	if !cnf.Right(p) {
		t.Fatal("it isn't right")
	}
	return p
}

// The unknown of a row stands behind all numbers; what isn't at most a bound is more than it.
func TestP151Literal(t *testing.T) {
	p := atoms(t)
	for i, c := range []struct {
		v            int
		upper, lower string
	}{
		{0, "5", "5+1d"}, {2, "-2/3-1d", "-2/3"}, {3, "0", "0+1d"}, {4, "0-1d", "0"}, {4, "18446744073709551616/3-1d", "18446744073709551616/3"}, {1, "-1/18446744073709551616", "-1/18446744073709551616+1d"},
	} {
		a := p.Atoms[i]
		lit := a.Bool + 1
		if v, upper, e := simplex.Literal(p, a, lit); v != c.v || !upper || e.Lit != lit || delta.Text(e.At) != c.upper {
			t.Errorf("%d: %d, %v, %s", lit, v, upper, edgeText(e))
		}
		if v, upper, e := simplex.Literal(p, a, -lit); v != c.v || upper || e.Lit != -lit || delta.Text(e.At) != c.lower || !ratio.Right(e.At.A) || !ratio.Right(e.At.B) {
			t.Errorf("%d: %d, %v, %s", -lit, v, upper, edgeText(e))
		}
	}
	if !reflect.DeepEqual(p, atoms(t)) {
		t.Error("the problem is another one")
	}
}

// Just the sign of a literal tells the side, whichever truth it is of; 0 is none, and tells nothing.
func TestP151LiteralOfAnyNumber(t *testing.T) {
	p := atoms(t)
	for _, lit := range []int{1, 7, 100, math.MaxInt} {
		if v, upper, e := simplex.Literal(p, p.Atoms[3], lit); v != 4 || !upper || edgeText(e) != edgeText(api.Edge{Lit: lit, At: value(t, "0-1d")}) {
			t.Errorf("%d: %d, %v, %s", lit, v, upper, edgeText(e))
		}
	}
	for _, lit := range []int{-1, -7, -100, -math.MaxInt, math.MinInt} {
		if v, upper, e := simplex.Literal(p, p.Atoms[3], lit); v != 4 || upper || e.Lit != lit || delta.Text(e.At) != "0" {
			t.Errorf("%d: %d, %v, %s", lit, v, upper, edgeText(e))
		}
	}
	for _, a := range p.Atoms {
		if v, upper, e := simplex.Literal(p, a, 0); v != 0 || upper || !reflect.DeepEqual(e, api.Edge{}) {
			t.Errorf("0: %d, %v, %s", v, upper, edgeText(e))
		}
	}
}
