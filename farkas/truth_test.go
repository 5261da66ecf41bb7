package farkas_test

import (
	"maps"
	"math/big"
	"math/rand/v2"
	"slices"
	"testing"

	"steelyard/api"
	"steelyard/cnf"
	"steelyard/farkas"
	"steelyard/nat"
	"steelyard/ratio"
	"steelyard/simplex"
	"steelyard/tableau"
)

// half is that a sum of numbers, each so many times, is at most a bound, or less than it.
type half struct {
	sum    map[int]*big.Rat
	most   *big.Rat
	strict bool
}

// halfOf gives what a literal of an atom says, by the words of layer 13: the atom is at most its bound; less, if there is a delta off.
func halfOf(p api.Problem, lit int) half {
	a := p.Atoms[slices.IndexFunc(p.Atoms, func(a api.Atom) bool { return a.Bool == max(lit, -lit)-1 })]
	h := half{map[int]*big.Rat{a.Var: big.NewRat(1, 1)}, rat(a.Bound.A), ratio.Sign(a.Bound.B) < 0}
	if a.Row >= 0 {
		clear(h.sum)
		for _, m := range p.Rows[a.Row].Monos {
			h.sum[m.Var] = rat(m.Coef)
		}
	}
	if lit < 0 {
		for v, k := range h.sum {
			h.sum[v] = new(big.Rat).Neg(k)
		}
		h.most.Neg(h.most)
		h.strict = !h.strict
	}
	return h
}

// plus gives what follows of one, so many times, and another one, so many times.
func (h half) plus(k *big.Rat, other half, l *big.Rat) half {
	out := half{map[int]*big.Rat{}, new(big.Rat).Add(new(big.Rat).Mul(k, h.most), new(big.Rat).Mul(l, other.most)), h.strict && k.Sign() > 0 || other.strict && l.Sign() > 0}
	for _, v := range slices.Concat(slices.Collect(maps.Keys(h.sum)), slices.Collect(maps.Keys(other.sum))) {
		part := new(big.Rat)
		if x, ok := h.sum[v]; ok {
			part.Add(part, new(big.Rat).Mul(k, x))
		}
		if x, ok := other.sum[v]; ok {
			part.Add(part, new(big.Rat).Mul(l, x))
		}
		if delete(out.sum, v); part.Sign() != 0 {
			out.sum[v] = part
		}
	}
	return out
}

// cannot tells whether it says of no numbers what isn't so.
func (h half) cannot() bool {
	return len(h.sum) == 0 && (h.most.Sign() < 0 || h.most.Sign() == 0 && h.strict)
}

// canBe tells whether numbers of a problem can be as all literals of reasons say: each number is taken out by each two that hold it from both sides.
func canBe(p api.Problem, reasons []api.Reason) bool {
	var list []half
	for _, r := range reasons {
		list = append(list, halfOf(p, r.Lit))
	}
	for v := range p.Reals {
		var rest, under, over []half
		for _, h := range list {
			switch k, ok := h.sum[v]; {
			case !ok:
				rest = append(rest, h)
			case k.Sign() > 0:
				under = append(under, h)
			default:
				over = append(over, h)
			}
		}
		for _, h := range under {
			for _, g := range over {
				rest = append(rest, h.plus(new(big.Rat).Neg(g.sum[v]), g, h.sum[v]))
			}
		}
		list = rest
	}
	return !slices.ContainsFunc(list, half.cannot)
}

// modelHolds tells whether reasons say, each so many times, together, that nothing is below 0.
func modelHolds(p api.Problem, list []api.Reason) bool {
	all := half{sum: map[int]*big.Rat{}, most: new(big.Rat)}
	for _, r := range list {
		if ratio.Sign(r.Coef) < 0 {
			return false
		}
		all = all.plus(big.NewRat(1, 1), halfOf(p, r.Lit), rat(r.Coef))
	}
	return all.cannot()
}

// someProblem gives a right problem over a few numbers, whose truths all are atoms.
func someProblem(t *testing.T, r *rand.Rand) api.Problem {
	t.Helper()
	p := api.Problem{Reals: 2 + r.IntN(2)}
	for range 1 + r.IntN(6) {
		q := api.Poly{}
		for v := range p.Reals {
			if k := few(r); ratio.Sign(k) != 0 {
				q.Monos = append(q.Monos, api.Mono{Var: v, Coef: k})
			}
		}
		if len(q.Monos) >= 2 {
			p.Rows = append(p.Rows, q)
		}
	}
	for _, v := range r.Perm(3 + r.IntN(8)) {
		a := api.Atom{Bool: v, Row: r.IntN(len(p.Rows)+1) - 1, Bound: api.Delta{A: few(r), B: ratio.Of(-r.Int64N(2))}}
		if a.Row < 0 {
			a.Var = r.IntN(p.Reals)
		}
		p.Atoms = append(p.Atoms, a)
	}
	p.Bools = len(p.Atoms)
	if !cnf.Right(p) {
		t.Fatalf("%v isn't right", p)
	}
	return p
}

// clash gives reasons that layer 15 tells of literals by chance; none, if all of them can be.
func clash(t *testing.T, r *rand.Rand, p api.Problem) []api.Reason {
	t.Helper()
	b, x := nat.New(1000), tableau.New(p)
	for _, v := range r.Perm(p.Bools) {
		lit := v + 1
		if r.IntN(2) == 0 {
			lit = -lit
		}
		at := slices.IndexFunc(p.Atoms, func(a api.Atom) bool { return a.Bool == v })
		unknown, upper, e := simplex.Literal(p, p.Atoms[at], lit)
		list, code := simplex.Bound(b, &x, unknown, upper, e)
		if code == api.OK && len(list) == 0 && r.IntN(2) == 0 {
			list, code = simplex.Check(b, &x)
		}
		if code != api.OK {
			t.Fatal(code)
		}
		if len(list) > 0 {
			return list
		}
	}
	list, _ := simplex.Check(b, &x)
	return list
}

// agrees tells an error, if reasons hold otherwise than by the model, or hold, and can all be true, or hold, and the least of them don't; else whether they hold.
func agrees(t *testing.T, p api.Problem, list []api.Reason) bool {
	t.Helper()
	got := farkas.Holds(p, list)
	if got != modelHolds(p, list) || got && canBe(p, list) {
		t.Fatalf("%q of %v: %v", why(list), p, got)
	}
	if least := farkas.Least(p, list); got && !farkas.Holds(p, least) {
		t.Fatalf("%q of %v: %q don't hold", why(list), p, why(least))
	}
	return got
}

// spoilt gives reasons of which one thing is another one.
func spoilt(r *rand.Rand, list []api.Reason) []api.Reason {
	list = slices.Clone(list)
	i := r.IntN(len(list))
	switch r.IntN(6) {
	case 0:
		list[i].Lit = -list[i].Lit
	case 1:
		list[i].Coef = few(r)
	case 2:
		list[i].Coef = ratio.Add(nat.New(1000), list[i].Coef, few(r))
	case 3:
		list = slices.Delete(list, i, i+1)
	case 4:
		list = append(list, list[i])
	default:
		list[i].Coef = ratio.Neg(list[i].Coef)
	}
	return list
}

// P16.1 to P16.3, of the reasons that layer 15 tells, of such that are nearly those, and of twice these in pieces.
func TestP163OfClashes(t *testing.T) {
	r := rand.New(rand.NewPCG(16, 2))
	counts := map[bool]int{}
	clashes := 0
	for range 6000 {
		p := someProblem(t, r)
		list := clash(t, r, p)
		if len(list) == 0 {
			continue
		}
		if clashes++; !agrees(t, p, list) {
			t.Fatalf("%q of %v: they don't hold", why(list), p)
		}
		for range 3 {
			counts[agrees(t, p, spoilt(r, list))]++
		}
		twice := append(copyOfReasons(list), list...)
		r.Shuffle(len(twice), func(i, j int) { twice[i], twice[j] = twice[j], twice[i] })
		if !agrees(t, p, twice) || !agrees(t, p, farkas.Least(p, twice)) {
			t.Fatalf("%q of %v: they don't hold twice", why(list), p)
		}
	}
	if clashes < 2000 || counts[true] < 500 || counts[false] < 2000 {
		t.Error(clashes, counts)
	}
}

// P16.1 to P16.3, of a few literals by chance, as many times as chance has it.
func TestP163ByChance(t *testing.T) {
	r := rand.New(rand.NewPCG(16, 3))
	counts := map[bool]int{}
	for range 20000 {
		p := someProblem(t, r)
		var list []api.Reason
		for range r.IntN(5) {
			lit := 1 + r.IntN(p.Bools)
			if r.IntN(2) == 0 {
				lit = -lit
			}
			k := ratio.Of(1)
			if r.IntN(4) == 0 {
				k = few(r)
			}
			list = append(list, api.Reason{Lit: lit, Coef: k})
		}
		counts[agrees(t, p, list)]++
	}
	if counts[true] < 300 || counts[false] < 3000 {
		t.Error(counts)
	}
}
