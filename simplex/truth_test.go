package simplex_test

import (
	"fmt"
	"maps"
	"math/big"
	"math/rand/v2"
	"slices"
	"testing"

	"steelyard/api"
	"steelyard/cnf"
	"steelyard/delta"
	"steelyard/nat"
	"steelyard/ratio"
	"steelyard/simplex"
	"steelyard/tableau"
)

// half is that a sum of numbers, each so many times, is at most a bound, or less than it.
type half struct {
	sum    map[int]*big.Rat
	most   *big.Rat
	strict bool
}

// halfOf gives what a literal of an atom says, by the words of layer 13: the atom is at most its bound; less, if there is a delta off.
func halfOf(p api.Problem, lit int) half {
	a := p.Atoms[slices.IndexFunc(p.Atoms, func(a api.Atom) bool { return a.Bool == max(lit, -lit)-1 })]
	h := half{map[int]*big.Rat{a.Var: big.NewRat(1, 1)}, rat(a.Bound.A), ratio.Sign(a.Bound.B) < 0}
	if a.Row >= 0 {
		clear(h.sum)
		for _, m := range p.Rows[a.Row].Monos {
			h.sum[m.Var] = rat(m.Coef)
		}
	}
	if lit < 0 {
		for v, k := range h.sum {
			h.sum[v] = new(big.Rat).Neg(k)
		}
		h.most.Neg(h.most)
		h.strict = !h.strict
	}
	return h
}

// plus gives what follows of one, so many times, and another one, so many times.
func (h half) plus(k *big.Rat, other half, l *big.Rat) half {
	out := half{map[int]*big.Rat{}, new(big.Rat).Add(new(big.Rat).Mul(k, h.most), new(big.Rat).Mul(l, other.most)), h.strict && k.Sign() > 0 || other.strict && l.Sign() > 0}
	for _, v := range slices.Concat(slices.Collect(maps.Keys(h.sum)), slices.Collect(maps.Keys(other.sum))) {
		part := new(big.Rat)
		if x, ok := h.sum[v]; ok {
			part.Add(part, new(big.Rat).Mul(k, x))
		}
		if x, ok := other.sum[v]; ok {
			part.Add(part, new(big.Rat).Mul(l, x))
		}
		if delete(out.sum, v); part.Sign() != 0 {
			out.sum[v] = part
		}
	}
	return out
}

// cannot tells whether it says of no numbers what isn't so.
func (h half) cannot() bool {
	return len(h.sum) == 0 && (h.most.Sign() < 0 || h.most.Sign() == 0 && h.strict)
}

// canBe tells whether numbers, so many, can be as all say: each number is taken out by each two that hold it from both sides.
func canBe(list []half, numbers int) bool {
	for v := range numbers {
		var rest, under, over []half
		for _, h := range list {
			switch k, ok := h.sum[v]; {
			case !ok:
				rest = append(rest, h)
			case k.Sign() > 0:
				under = append(under, h)
			default:
				over = append(over, h)
			}
		}
		for _, h := range under {
			for _, g := range over {
				rest = append(rest, h.plus(new(big.Rat).Neg(g.sum[v]), g, h.sum[v]))
			}
		}
		list = rest
	}
	return !slices.ContainsFunc(list, half.cannot)
}

// hold tells whether reasons say, each so many times, together, that nothing is below 0.
func hold(p api.Problem, list []api.Reason) bool {
	all := half{sum: map[int]*big.Rat{}, most: new(big.Rat)}
	for _, r := range list {
		if !ratio.Right(r.Coef) || ratio.Sign(r.Coef) < 0 {
			return false
		}
		all = all.plus(big.NewRat(1, 1), halfOf(p, r.Lit), rat(r.Coef))
	}
	return all.cannot()
}

// someProblem gives a right problem over a few numbers, whose truths all are atoms.
func someProblem(r *rand.Rand) api.Problem {
	p := api.Problem{Reals: 2 + r.IntN(2)}
	few := func() api.Ratio { return ratio.Div(nat.New(2), ratio.Of(r.Int64N(7)-3), ratio.Of(1+r.Int64N(2))) }
	for range 1 + r.IntN(6) {
		q := api.Poly{}
		for v := range p.Reals {
			if k := few(); ratio.Sign(k) != 0 {
				q.Monos = append(q.Monos, api.Mono{Var: v, Coef: k})
			}
		}
		if len(q.Monos) >= 2 {
			p.Rows = append(p.Rows, q)
		}
	}
	for v := range 3 + r.IntN(8) {
		a := api.Atom{Bool: v, Row: r.IntN(len(p.Rows)+1) - 1, Bound: api.Delta{A: few(), B: ratio.Of(-r.Int64N(2))}}
		if a.Row < 0 {
			a.Var = r.IntN(p.Reals)
		}
		p.Atoms = append(p.Atoms, a)
	}
	p.Bools = len(p.Atoms)
	return p
}

// search is literals of a problem that are told, how many of them could be when that was asked last, bounds as they were ahead of the others, and what has come of it.
type search struct {
	t            *testing.T
	p            api.Problem
	b            *nat.Bench
	x            api.Tableau
	told         []int
	asked        int
	lower, upper []api.Edge
	counts       map[string]int
}

// newSearch gives the search of a problem.
func newSearch(t *testing.T, p api.Problem, counts map[string]int) *search {
	t.Helper()
	if !cnf.Right(p) {
		t.Fatalf("%v isn't right", p)
	}
	x := tableau.New(p)
	return &search{t: t, p: p, b: nat.New(1000), x: x, lower: slices.Clone(x.Lower), upper: slices.Clone(x.Upper), counts: counts}
}

// canBe tells whether numbers can be as these literals say.
func (s *search) canBe(lits []int) bool {
	var list []half
	for _, lit := range lits {
		list = append(list, halfOf(s.p, lit))
	}
	return canBe(list, s.p.Reals)
}

// refuses tells an error, if reasons aren't all of literals that are told, don't hold, or can all be true.
func (s *search) refuses(what string, list []api.Reason, told []int) {
	s.t.Helper()
	var lits []int
	for _, r := range list {
		if lits = append(lits, r.Lit); !slices.Contains(told, r.Lit) {
			s.t.Fatalf("%s: %q of %v", what, why(list), told)
		}
	}
	if !hold(s.p, list) || s.canBe(lits) || s.canBe(told) {
		s.t.Fatalf("%s of %v: %q don't hold", what, s.p, why(list))
	}
	s.counts[what]++
}

// tell tells a literal, if it can be beside each other one alone.
func (s *search) tell(lit int) {
	s.t.Helper()
	v, upper, e := simplex.Literal(s.p, s.p.Atoms[max(lit, -lit)-1], lit)
	before := show(s.x)
	list, code := simplex.Bound(s.b, &s.x, v, upper, e)
	told := append(slices.Clone(s.told), lit)
	switch {
	case code != api.OK || !tableau.Right(s.x) || len(list) > 0 && show(s.x) != before:
		s.t.Fatalf("Bound: %v, %s", code, show(s.x))
	case len(list) > 0:
		s.refuses("Bound", list, told)
	default:
		s.told = told
	}
}

// ask asks whether all that is told can be; if it can't, what was told since that was asked last is told no more.
func (s *search) ask() {
	s.t.Helper()
	bounds := boundsText(s.x)
	list, code := simplex.Check(s.b, &s.x)
	if code != api.OK || !tableau.Right(s.x) || boundsText(s.x) != bounds {
		s.t.Fatalf("Check: %v, %s", code, show(s.x))
	}
	if len(list) > 0 {
		s.refuses("Check", list, s.told)
		s.told, s.x.Lower, s.x.Upper = s.told[:s.asked], slices.Clone(s.lower), slices.Clone(s.upper)
		return
	}
	s.agrees()
	s.asked, s.lower, s.upper = len(s.told), slices.Clone(s.x.Lower), slices.Clone(s.x.Upper)
}

// agrees tells an error, if an unknown isn't within its bounds, or numbers can't be as the literals say, or these ones aren't.
func (s *search) agrees() {
	s.t.Helper()
	var pairs [][2]api.Delta
	for v, x := range s.x.Values {
		if e := s.x.Lower[v]; e.Lit != 0 {
			pairs = append(pairs, [2]api.Delta{e.At, x})
		}
		if e := s.x.Upper[v]; e.Lit != 0 {
			pairs = append(pairs, [2]api.Delta{x, e.At})
		}
	}
	if slices.ContainsFunc(pairs, func(c [2]api.Delta) bool { return delta.Cmp(c[0], c[1]) > 0 }) || !s.canBe(s.told) {
		s.t.Fatalf("%v of %v: %s", s.told, s.p, show(s.x))
	}
	d := delta.Small(s.b, pairs)
	for _, lit := range s.told {
		h := halfOf(s.p, lit)
		value := new(big.Rat)
		for v, k := range h.sum {
			value.Add(value, new(big.Rat).Mul(k, rat(delta.At(s.b, s.x.Values[v], d))))
		}
		if order := value.Cmp(h.most); order > 0 || order == 0 && h.strict {
			s.t.Fatalf("%v of %v: %d isn't so: %s", s.told, s.p, lit, show(s.x))
		}
	}
	s.counts["agrees"]++
}

// P15.2 and P15.3: behind a Check without reasons all is within its bounds, and numbers can be so; reasons hold, and numbers can't be so.
func TestP152AndP153ByChance(t *testing.T) {
	r := rand.New(rand.NewPCG(15, 4))
	counts := map[string]int{}
	for range 4000 {
		s := newSearch(t, someProblem(r), counts)
		// What was told no more may be told again, the other way round.
		for _, v := range slices.Concat(r.Perm(s.p.Bools), r.Perm(s.p.Bools)) {
			lit := v + 1
			if r.IntN(2) == 0 {
				lit = -lit
			}
			if slices.Contains(s.told, lit) || slices.Contains(s.told, -lit) {
				continue
			}
			if s.tell(lit); r.IntN(3) == 0 {
				s.ask()
			}
		}
		s.ask()
	}
	if counts["Bound"] < 3000 || counts["Check"] < 1000 || counts["agrees"] < 5000 {
		t.Error(counts)
	}
}

// The document's example: x at least 1, y at least 1, and x + y at most 1: a Clash of three.
func TestP153Example(t *testing.T) {
	x := tableau.New(api.Problem{Reals: 2, Rows: []api.Poly{sum(t, "1@0 1@1")}})
	b := nat.New(1)
	for v, at := range []string{"1", "1", "1"} {
		if list, code := simplex.Bound(b, &x, v, v == 2, edge(t, fmt.Sprintf("%d@%s", v+4, at))); len(list) > 0 || code != api.OK {
			t.Errorf("%d: %q, %v", v, why(list), code)
		}
	}
	text := "2: 1@0 1@1 | 1 1 2 | 4@1 5@1 - | - - 6@1"
	is(t, "three bounds", x, text)
	step(t, text, simplex.Clash, "1@6 1@4 1@5", text)
	if list, code := simplex.Check(b, &x); why(list) != "1@6 1@4 1@5" || code != api.OK {
		t.Errorf("%q, %v", why(list), code)
	}
	is(t, "behind Check", x, text)
}
