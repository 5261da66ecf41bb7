package farkas_test

import (
	"math"
	"reflect"
	"strings"
	"testing"

	"steelyard/api"
	"steelyard/farkas"
	"steelyard/ratio"
)

// holds tells an error, if reasons of a text hold, or don't, when they should.
func holds(t *testing.T, p api.Problem, list string, want bool) {
	t.Helper()
	if got := farkas.Holds(p, reasons(t, list)); got != want {
		t.Errorf("%q: %v", list, got)
	}
}

// The document's example: x at most 1, and x at least 2, each once: they hold.
func TestP161Example(t *testing.T) {
	p := problem(t, 1, "", "0<=1 0<=2-1d")
	holds(t, p, "1@2 1@-3", true)
	holds(t, p, "1@-3 1@2", true)
	holds(t, p, "1@-2 1@3", false)
}

// What is left must be less than 0, if by no more than a delta.
func TestP161Left(t *testing.T) {
	p := problem(t, 1, "", "0<=1 0<=1-1d 0<=2 0<=-1/3-1d")
	for _, c := range []struct {
		list string
		want bool
	}{
		{"1@2 1@-2", true}, {"1@3 1@-3", true}, {"5/7@2 5/7@-2", true}, {"1@3 1@-2", true},
		{"1@2 1@-3", false}, {"1@4 1@-2", false}, {"1@4 1@-4", true}, {"1@5 1@-2", true},
		{"1@2 1@-4", true}, {"1@3 1@-4", true}, {"1@4 1@-3", false}, {"1@5 1@-5", true}, {"1@2 1@-5", false},
		{"1@2 1@3 2@-3", true}, {"2@2 2@-3", false}, {"1@2 1@4 2@-2", false}, {"3@2 1@4 3@-3 1@-2", false}, {"1@2 1@5 1@-5 1@-3", true},
		{"1@2", false}, {"1@-2", false}, {"1@5", false}, {"1@-5", false}, {"1@2 1@3", false}, {"1@-2 1@-3", false}, {"", false},
	} {
		holds(t, p, c.list, c.want)
	}
}

// No unknown may be left, however little, of numbers and of those that rows stand for.
func TestP161Gone(t *testing.T) {
	p := problem(t, 3, "1@0 1@1; 1@1 -1/2@2; 1@0 1@1; 2@0 2@1; 1@0 1/2@2", "0<=1 1<=1 2<=0 #0<=2 #1<=-7 #2<=1 #3<=3 #4<=-3")
	for _, c := range []struct {
		list string
		want bool
	}{
		{"1@2 1@3 1@-5", true}, {"1@2 1@3 1@-7", false}, {"2@2 2@3 1@-8", false}, {"1@-5", false}, {"1@2 1@-5", false}, {"1@2 2@3 2@-5", false}, {"1@2 1@3 2@-5", false}, {"2/3@2 2/3@3 2/3@-5", true},
		{"1@7 1@-5", true}, {"1@5 1@-7", false}, {"1@5 1@-5", true}, {"1@8 2@-5", true}, {"1@8 1@-5 1@-7", true}, {"1@7 2@-5", false}, {"1@-8 2@7", true}, {"1@-8 1@5 1@7", true}, {"1@-8 2@5", false}, {"1@8 1@-5", false},
		{"1@6 1@9 1@-5", true}, {"1@6 1@9 1@-7", true}, {"2@6 2@9 1@-8", true}, {"1@6 1@9", false}, {"1@6 2@9 1@-5", false}, {"1@6 1@9 1@-2 1@-3", true}, {"1@-6 1@-9 1@5", false},
		{"1@2 1@3 1@4 1@-5", false}, {"1@2 1@3 1@4 1@-4 1@-5", true}, {"1@-4 1@4", true}, {"1@6 1@-3", false}, {"1@6 1@-3 1/2@4", true}, {"1@6 1@-3 1@4", false},
	} {
		holds(t, p, c.list, c.want)
	}
}

// Each Coef is 0 or more, and in its one form.
func TestP161Coefs(t *testing.T) {
	p := problem(t, 2, "1@0 1@1", "0<=1 1<=1 #0<=2 0<=5")
	for _, c := range []struct {
		list string
		want bool
	}{
		{"1@2 1@3 1@-4 0@5", true}, {"0@-5 1@2 1@3 0@2 1@-4", true}, {"0@2 0@3 0@-4", false}, {"0@2", false},
		{"-1@2 -1@3 -1@-4", false}, {"2@2 -1@2 1@3 1@-4", false}, {"1@2 1@3 1@-4 -1@5 1@5", false}, {"1@2 1@3 1@-4 1@5 -1@5", false}, {"-1@5 1@2 1@3 1@-4 1@5", false},
		{"1@2 1@3 1@-4 -1/1000000000000000000000@-5 1/1000000000000000000000@-5", false},
		{"1@2 1@2 2@3 1/2@-4 3/2@-4", true}, {"1@2 1@-2 1@3 1@-3 1@4 1@-4", true}, {"1@2 1@5 2@3 2@-4", false},
		{"1@2 1@3 1000000000000000000001/1000000000000000000000@-4", false}, {"18446744073709551617/3@2 18446744073709551617/3@3 18446744073709551617/3@-4", true},
	} {
		holds(t, p, c.list, c.want)
	}
	for _, k := range oddRatios() {
		if farkas.Holds(p, append(reasons(t, "1@2 1@3 1@-4"), api.Reason{Lit: 5, Coef: k})) || farkas.Holds(p, append([]api.Reason{{Lit: 2, Coef: k}}, reasons(t, "1@3 1@-4")...)) {
			t.Errorf("%v isn't in its one form", k)
		}
	}
	// These would be 1, and 0, in their one form.
	for _, k := range []api.Ratio{{Num: api.Whole{Mag: api.Nat{1}}, Den: api.Nat{1}}, {Num: api.Whole{Mag: api.Nat{1, 0}}}, {Num: api.Whole{Mag: api.Nat{2}}, Den: api.Nat{2}}, {Num: api.Whole{Neg: true}}, {Num: api.Whole{Mag: api.Nat{0}}}, {Den: api.Nat{7}}} {
		for _, list := range []string{"1@3 1@-4", "1@2 1@3 1@-4"} {
			if farkas.Holds(p, append(reasons(t, list), api.Reason{Lit: 2, Coef: k})) {
				t.Errorf("%v isn't in its one form", k)
			}
		}
	}
}

// Each Lit is the literal of an atom's truth, also where it is taken 0 times.
func TestP161Lits(t *testing.T) {
	p := problem(t, 2, "1@0 1@1", "0<=1 1<=1 #0<=2")
	p.Bools += 2
	for _, lit := range []int{0, 1, -1, 5, -5, 6, -6, 7, -7, 100, math.MaxInt, -math.MaxInt, math.MinInt} {
		for _, k := range []int64{0, 1} {
			r := api.Reason{Lit: lit, Coef: ratio.Of(k)}
			if farkas.Holds(p, append(reasons(t, "1@2 1@3 1@-4"), r)) || farkas.Holds(p, append([]api.Reason{r}, reasons(t, "1@2 1@3 1@-4")...)) || farkas.Holds(p, []api.Reason{r}) {
				t.Errorf("%d isn't an atom's", lit)
			}
		}
	}
	holds(t, p, "1@2 1@3 1@-4", true)
}

// Atoms may stand in any order, their truths have any numbers; clauses don't matter.
func TestP161Truths(t *testing.T) {
	p := problem(t, 2, "1@0 1@1", "0<=1 1<=1 #0<=2")
	p.Atoms[0], p.Atoms[2] = p.Atoms[2], p.Atoms[0]
	holds(t, p, "1@2 1@3 1@-4", true)
	p.Bools, p.Atoms[0].Bool, p.Atoms[1].Bool = math.MaxInt, 0, math.MaxInt-1
	list := reasons(t, "1@2 1@9223372036854775807 1@-1")
	if !farkas.Holds(p, list) {
		t.Error("other numbers")
	}
	p.Clauses = [][]int{{}, {-2}, {2}, {1}, {7, -7}}
	if !farkas.Holds(p, list) {
		t.Error("clauses")
	}
	list[1].Lit = math.MinInt
	if farkas.Holds(p, list) {
		t.Error("the least number")
	}
	list[1].Lit = -math.MaxInt
	if farkas.Holds(p, list) {
		t.Error("the other sign")
	}
}

// A problem may have as many numbers as can be told.
func TestP161ManyNumbers(t *testing.T) {
	p := problem(t, math.MaxInt, "1@0 1@9223372036854775806; 1@0 2@1; 1@0 1@9223372036854775806; 1@0 3@1", "0<=1 9223372036854775806<=1 #0<=2 #1<=0 #2<=1 #3<=-2 1<=1")
	for _, c := range []struct {
		list string
		want bool
	}{
		{"1@2 1@3 1@-4", true}, {"1@6 1@-4", true}, {"1@4 1@-6", false}, {"1@2 1@3 1@-5", false}, {"1@7 1@-5", false}, {"1@5 1@-7", false}, {"1@5 1@8 1@-7", false}, {"1@7 1@-5 1@-8", true},
	} {
		holds(t, p, c.list, c.want)
	}
}

// Numbers may be as great as may be.
func TestP161GreatNumbers(t *testing.T) {
	great := "1" + strings.Repeat("0", 999)
	p := problem(t, 2, "1@0 "+great+"@1", "0<=1/"+great+" 1<=0 #0<=1/"+great+" #0<=0")
	for _, c := range []struct {
		list string
		want bool
	}{
		{"1@2 " + great + "@3 1@-4", true}, {great + "@2 " + great + "@3 1@-4", false}, {"1@2 1@3 1@-4", false}, {"1/" + great + "@2 1@3 1/" + great + "@-4", true}, {"1/" + great + "@5 1/" + great + "@-4", true}, {"1@4 1@-5", false},
	} {
		holds(t, p, c.list, c.want)
	}
}

// A problem that isn't right has no reasons that hold.
func TestP161Right(t *testing.T) {
	good := func() api.Problem {
		p := problem(t, 2, "1@0 1@1; 1@0 2@1", "0<=1 1<=1 #0<=2 1<=9")
		p.Clauses = [][]int{{1}, {2, -3}}
		return p
	}
	list := reasons(t, "1@2 1@3 1@-4")
	p := good()
	p.Lits, p.Polys = []int{0, 99, math.MinInt}, []api.Poly{{Const: oddRatios()[0]}}
	if !farkas.Holds(p, list) {
		t.Error("literals and sums of nodes don't matter")
	}
	for i, spoil := range []func(p *api.Problem){
		func(p *api.Problem) { p.Bools = -1 },
		func(p *api.Problem) { p.Bools = 4 },
		func(p *api.Problem) { p.Reals = 1 },
		func(p *api.Problem) { p.Rows[0].Const = ratio.Of(1) },
		func(p *api.Problem) { p.Rows[1].Const = ratio.Of(1) },
		func(p *api.Problem) { p.Rows[1].Monos = p.Rows[1].Monos[:1] },
		func(p *api.Problem) { p.Rows[1].Monos[0].Var = 1 },
		func(p *api.Problem) { p.Rows[1].Monos[1].Coef = api.Ratio{} },
		func(p *api.Problem) { p.Rows = p.Rows[:0] },
		func(p *api.Problem) { p.Atoms[3].Bool = 1 },
		func(p *api.Problem) { p.Atoms[3].Bool = 5 },
		func(p *api.Problem) { p.Atoms[3].Row = 2 },
		func(p *api.Problem) { p.Atoms[3].Row = -2 },
		func(p *api.Problem) { p.Atoms[2].Var = 1 },
		func(p *api.Problem) { p.Atoms[3].Bound.B = ratio.Of(1) },
		func(p *api.Problem) { p.Atoms[3].Bound.A = oddRatios()[0] },
		func(p *api.Problem) { p.Clauses[1][0] = 0 },
		func(p *api.Problem) { p.Clauses[1][1] = -6 },
	} {
		p := good()
		spoil(&p)
		if farkas.Holds(p, list) {
			t.Errorf("%d: %v isn't right", i, p)
		}
	}
	if farkas.Holds(api.Problem{}, nil) || farkas.Holds(api.Problem{}, list) {
		t.Error("nothing")
	}
}

// What is asked of doesn't change.
func TestHoldsChangesNothing(t *testing.T) {
	p := problem(t, 2, "1@0 1@1", "0<=1 1<=1 #0<=2")
	list := reasons(t, "1/2@2 1@3 1@-4 1/2@2")
	kept, keptList := copyOf(p), copyOfReasons(list)
	for range 2 {
		if !farkas.Holds(p, list) || !reflect.DeepEqual(p, kept) || !reflect.DeepEqual(list, keptList) {
			t.Errorf("%v, %v", p, list)
		}
	}
}

// Many reasons over a long row are told of at once: the row is gone through once.
func TestHoldsMany(t *testing.T) {
	const n = 30000
	p := api.Problem{Bools: 2 * n, Reals: n, Rows: []api.Poly{{}}}
	var list []api.Reason
	for v := range n {
		p.Rows[0].Monos = append(p.Rows[0].Monos, api.Mono{Var: v, Coef: ratio.Of(1)})
		p.Atoms = append(p.Atoms, api.Atom{Bool: v, Var: v, Row: -1}, api.Atom{Bool: n + v, Bound: api.Delta{B: ratio.Of(-1)}})
		list = append(list, api.Reason{Lit: v + 1, Coef: ratio.Of(n)}, api.Reason{Lit: -(n + v + 1), Coef: ratio.Of(1)})
	}
	if farkas.Holds(p, list) {
		t.Error("0 isn't less than 0")
	}
	p.Atoms[2*n-1].Bound.B = api.Ratio{}
	if !farkas.Holds(p, list) || farkas.Holds(p, list[:2*n-1]) {
		t.Error("just one is strict")
	}
	if least := farkas.Least(p, append(list, list...)); len(least) != 2*n || !farkas.Holds(p, least) {
		t.Error(len(least))
	}
}
