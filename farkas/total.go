package farkas

import (
	"math"

	"steelyard/api"
	"steelyard/delta"
	"steelyard/linear"
	"steelyard/nat"
	"steelyard/ratio"
	"steelyard/simplex"
)

// times is of each unknown how many times it stands in a sum.
type times map[int]api.Ratio

// total is what bounds say together: that a sum of a problem's unknowns is at most so much.
type total struct {
	problem  api.Problem
	bench    *nat.Bench
	unknowns times
	most     api.Delta
}

// newTotal gives the total of no bounds.
func newTotal(p api.Problem) *total {
	return &total{problem: p, bench: unbounded(), unknowns: times{}}
}

// unbounded gives a bench on which no number that can be kept is over.
func unbounded() *nat.Bench { return nat.New(math.MaxInt32) }

// take adds the bound that a literal of an atom tells, as many times as it is taken.
func (s *total) take(a api.Atom, r api.Reason) {
	v, upper, e := simplex.Literal(s.problem, a, r.Lit)
	k := r.Coef
	if !upper {
		// At least so much is at most so much with the other sign on both sides.
		k = ratio.Neg(k)
	}
	s.unknowns.add(s.bench, v, k)
	s.most = delta.Add(s.bench, s.most, delta.Scale(s.bench, k, e.At))
}

// isBelow tells whether the unknowns are gone, and what is left says that nothing is below 0.
func (s *total) isBelow() bool {
	for _, k := range s.numbers() {
		if ratio.Sign(k) != 0 {
			return false
		}
	}
	return delta.Cmp(s.most, api.Delta{}) < 0
}

// numbers gives how many times each number stands in the sum, with the rows in place of the unknowns that stand for them.
func (s *total) numbers() times {
	all := times{}
	for v, k := range s.unknowns {
		for _, m := range s.sumOf(v).Monos {
			all.add(s.bench, m.Var, ratio.Mul(s.bench, k, m.Coef))
		}
	}
	return all
}

// sumOf gives the row for which an unknown stands; the unknown itself, if it is a number.
func (s *total) sumOf(v int) api.Poly {
	// A row's unknown wraps round, if there are nearly as many numbers as may be, and wraps back here.
	if row := v - s.problem.Reals; row >= 0 {
		return s.problem.Rows[row]
	}
	return linear.Of(v)
}

// add lets an unknown stand so many times more.
func (t times) add(b *nat.Bench, v int, k api.Ratio) { t[v] = ratio.Add(b, t[v], k) }
