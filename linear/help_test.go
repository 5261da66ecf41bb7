package linear_test

import (
	"math/big"
	"math/rand/v2"
	"slices"
	"strconv"
	"strings"
	"testing"

	"steelyard/api"
	"steelyard/linear"
	"steelyard/nat"
	"steelyard/ratio"
)

// number gives the ratio of a text such as -3/4.
func number(t *testing.T, s string) api.Ratio {
	t.Helper()
	digits, neg := strings.CutPrefix(s, "-")
	first, second, through := strings.Cut(digits, "/")
	b := nat.New(1000)
	x, ok := ratio.Decimal(b, first)
	if through {
		den, right := ratio.Decimal(b, second)
		x, ok = ratio.Div(b, x, den), ok && right
	}
	if neg {
		x = ratio.Neg(x)
	}
	if !ok || ratio.Text(x) != s {
		t.Fatalf("%q is no ratio in its one form", s)
	}
	return x
}

// read gives the sum of a text such as "3 2@0 -1/2@5": 3, twice the unknown 0, less half the unknown 5.
func read(t *testing.T, s string) api.Poly {
	t.Helper()
	first, monos, _ := strings.Cut(s, " ")
	p := api.Poly{Const: number(t, first)}
	for mono := range strings.FieldsSeq(monos) {
		coef, name, _ := strings.Cut(mono, "@")
		v, err := strconv.Atoi(name)
		if err != nil {
			t.Fatalf("%q is no sum", s)
		}
		p.Monos = append(p.Monos, api.Mono{Var: v, Coef: number(t, coef)})
	}
	return p
}

// numbers gives the ratios of a text with a blank between each two.
func numbers(t *testing.T, s string) []api.Ratio {
	t.Helper()
	var list []api.Ratio
	for x := range strings.FieldsSeq(s) {
		list = append(list, number(t, x))
	}
	return list
}

// text gives the text of a sum that read gives it of.
func text(p api.Poly) string {
	out := ratio.Text(p.Const)
	for _, m := range p.Monos {
		out += " " + ratio.Text(m.Coef) + "@" + strconv.Itoa(m.Var)
	}
	return out
}

// oneForm tells whether all of a sum is as it must be, by the words of the document.
func oneForm(p api.Poly) bool {
	for i, m := range p.Monos {
		if m.Var < 0 || i > 0 && m.Var <= p.Monos[i-1].Var || !ratio.Right(m.Coef) || len(m.Coef.Num.Mag) == 0 {
			return false
		}
	}
	return ratio.Right(p.Const)
}

// same tells an error, if a sum isn't that of a text, each number in its one form.
func same(t *testing.T, what string, got api.Poly, want string) {
	t.Helper()
	if !oneForm(got) || text(got) != want {
		t.Errorf("%s: %v, not %s", what, got, want)
	}
}

// noNumber tells whether a ratio is the zero value.
func noNumber(x api.Ratio) bool { return !x.Num.Neg && len(x.Num.Mag) == 0 && len(x.Den) == 0 }

// nothing tells whether a sum is the one without anything.
func nothing(p api.Poly) bool { return noNumber(p.Const) && len(p.Monos) == 0 }

// rat gives the rational number that a ratio is.
func rat(x api.Ratio) *big.Rat {
	r, ok := new(big.Rat).SetString(ratio.Text(x))
	if !ok {
		panic("no ratio: " + ratio.Text(x))
	}
	return r
}

// tooGreat tells whether a rational number has more limbs than so many.
func tooGreat(r *big.Rat, limbs int) bool {
	return r.Num().BitLen() > 32*limbs || !r.IsInt() && r.Denom().BitLen() > 32*limbs
}

// model is a sum by its unknowns; that at -1 is its number. None is 0.
type model map[int]*big.Rat

// modelOf gives the model of a sum.
func modelOf(p api.Poly) model {
	m := model{}
	m.add(-1, rat(p.Const))
	for _, mono := range p.Monos {
		m.add(mono.Var, rat(mono.Coef))
	}
	return m
}

// add puts an unknown to a model, so many times.
func (m model) add(v int, times *big.Rat) {
	sum := new(big.Rat).Set(times)
	if old, ok := m[v]; ok {
		sum.Add(sum, old)
	}
	m[v] = sum
	if sum.Sign() == 0 {
		delete(m, v)
	}
}

// plus gives a model, and another one so many times.
func (m model) plus(k *big.Rat, other model) model {
	sum := model{}
	for v, x := range m {
		sum.add(v, x)
	}
	for v, x := range other {
		sum.add(v, new(big.Rat).Mul(k, x))
	}
	return sum
}

// value gives what a model is.
func (m model) value(reals []api.Ratio) *big.Rat {
	sum := new(big.Rat)
	for v, x := range m {
		if v >= 0 {
			x = new(big.Rat).Mul(x, rat(reals[v]))
		}
		sum.Add(sum, x)
	}
	return sum
}

// tooGreat tells whether a number of a model has more limbs than so many.
func (m model) tooGreat(limbs int) bool {
	for _, x := range m {
		if tooGreat(x, limbs) {
			return true
		}
	}
	return false
}

// text gives the text of the sum that a model is.
func (m model) text() string {
	var names []int
	for v := range m {
		names = append(names, v)
	}
	slices.Sort(names)
	out := "0"
	for _, v := range names {
		if v < 0 {
			out = m[v].RatString()
			continue
		}
		out += " " + m[v].RatString() + "@" + strconv.Itoa(v)
	}
	return out
}

// overBench gives a bench for so many limbs that is over.
func overBench(limbs int) *nat.Bench {
	b := nat.New(limbs)
	b.Add(append(make(api.Nat, b.Limbs()), 1), nil)
	if !b.Over() {
		panic("a bench isn't over")
	}
	return b
}

// someNumber gives a ratio of up to so many limbs; often 0, or a small one.
func someNumber(r *rand.Rand, limbs int) api.Ratio {
	if r.IntN(3) > 0 {
		return ratio.Div(nat.New(2), ratio.Of(r.Int64N(7)-3), ratio.Of(1+r.Int64N(3)))
	}
	part := func() api.Nat {
		x := make(api.Nat, r.IntN(limbs+1))
		for i := range x {
			x[i] = uint32(r.Uint64()>>r.IntN(32)) | 1
		}
		return x
	}
	den := part()
	if len(den) == 0 {
		den = api.Nat{1}
	}
	return ratio.Make(nat.New(limbs), r.IntN(2) == 0, part(), den)
}

// someSum gives a right sum of up to so many of the first unknowns, whose numbers have up to so many limbs.
func someSum(r *rand.Rand, unknowns, limbs int) api.Poly {
	p := api.Poly{Const: someNumber(r, limbs)}
	for v := range r.IntN(unknowns + 1) {
		if coef := someNumber(r, limbs); ratio.Sign(coef) != 0 {
			p.Monos = append(p.Monos, api.Mono{Var: v, Coef: coef})
		}
	}
	return p
}

// samples gives right sums, of unlike lengths.
func samples(count int) []api.Poly {
	r := rand.New(rand.NewPCG(7, 8))
	list := []api.Poly{{}, linear.Of(0), linear.Of(1), linear.Of(7)}
	for range count {
		list = append(list, someSum(r, 6, 3))
	}
	return list
}

// oddRatios gives ratios that aren't in their one form.
func oddRatios() []api.Ratio {
	rows := []api.Nat{nil, {}, {0}, {0, 0}, {1}, {1, 0}, {6}, {6, 0, 0}, {0, 4}, {9, 9, 9}}
	var list []api.Ratio
	for _, num := range rows {
		for _, den := range rows {
			for _, neg := range []bool{false, true} {
				if x := (api.Ratio{Num: api.Whole{Neg: neg, Mag: num}, Den: den}); !ratio.Right(x) {
					list = append(list, x)
				}
			}
		}
	}
	return list
}
