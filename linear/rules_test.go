package linear_test

import (
	"fmt"
	"math"
	"slices"
	"strings"
	"testing"

	"steelyard/api"
	"steelyard/linear"
	"steelyard/nat"
	"steelyard/ratio"
)

// oddSums gives sums of all kinds that aren't right.
func oddSums() []api.Poly {
	odd := oddRatios()
	one := ratio.Of(1)
	var list []api.Poly
	names := []int{math.MinInt, -1, 0, 1, 5, math.MaxInt}
	for i, v := range names {
		for j, w := range names {
			x, y := odd[(7*i+j)%len(odd)], odd[(5*j+i)%len(odd)]
			list = append(list,
				api.Poly{Const: x, Monos: []api.Mono{{Var: v, Coef: y}}},
				api.Poly{Const: one, Monos: []api.Mono{{Var: v, Coef: one}, {Var: w, Coef: one}, {Var: v, Coef: one}}},
				api.Poly{Monos: []api.Mono{{Var: v}, {Var: w, Coef: x}, {Var: w, Coef: one}, {Var: i, Coef: y}}},
				api.Poly{Monos: []api.Mono{{Var: v, Coef: x}, {Var: w}}},
			)
		}
	}
	return list
}

// allAnswers gives what all calls answer, at sums that aren't right too, as a text.
func allAnswers() string {
	var out strings.Builder
	say := func(list ...any) { fmt.Fprintln(&out, list...) }
	for _, v := range []int{math.MinInt, -1, 0, 1, 1 << 40, math.MaxInt} {
		say(linear.Of(v))
	}
	list := append(oddSums(), samples(10)...)
	odd := append(oddRatios(), ratio.Of(3), ratio.Of(-1), api.Ratio{})
	kept := nat.New(3)
	for i, p := range list {
		say(linear.Right(p))
		for j, q := range list {
			k := odd[(11*i+j)%len(odd)]
			say(linear.Same(p, q))
			for _, b := range []*nat.Bench{nat.New(9), nat.New(math.MinInt), kept} {
				say(linear.Add(b, p, k, q), linear.Scale(b, k, p), b.Over())
			}
		}
		for _, b := range []*nat.Bench{nat.New(9), nat.New(math.MinInt), kept} {
			say(linear.Normal(b, p))
			say(linear.Value(b, p, odd))
			say(linear.Value(b, p, odd[:i%7]))
			say(linear.Value(b, p, nil))
		}
	}
	return out.String()
}

// P1: a call that panics ends the test, one that doesn't end is cut off.
func TestP1NoCallPanics(t *testing.T) {
	defer func() {
		if e := recover(); e != nil {
			t.Errorf("a call panics: %v", e)
		}
	}()
	if allAnswers() == "" {
		t.Error("nothing was called")
	}
}

// P2: the same calls give the same answers, whatever goes on between them.
func TestP2SameCallsSameAnswers(t *testing.T) {
	first := allAnswers()
	linear.Add(overBench(1), linear.Of(0), ratio.Of(2), linear.Of(1))
	if allAnswers() != first {
		t.Error("the same calls answer otherwise")
	}
}

// Sums of many unknowns are reckoned in one go through both.
func TestGreatSums(t *testing.T) {
	const count = 1 << 17
	b := nat.New(2)
	var even, all api.Poly
	for v := range count {
		even.Monos = append(even.Monos, api.Mono{Var: 2 * v, Coef: ratio.Of(int64(v + 1))})
		all.Monos = append(all.Monos, api.Mono{Var: v, Coef: ratio.Of(1)})
	}
	sum := linear.Add(b, even, ratio.Of(-1), all)
	if len(sum.Monos) != count/2+count-1 || !linear.Right(sum) || b.Over() {
		t.Errorf("%d unknowns, over: %v", len(sum.Monos), b.Over())
	}
	reals := slices.Repeat([]api.Ratio{ratio.Of(1)}, 2*count)
	if x, code := linear.Value(b, sum, reals); code != api.OK || rat(x).Num().Int64() != count*(count+1)/2-count {
		t.Errorf("%v, %v", x, code)
	}
	if !nothing(linear.Add(b, sum, ratio.Of(-1), sum)) {
		t.Error("a sum less itself isn't 0")
	}
	if q, k := linear.Normal(b, linear.Scale(b, ratio.Of(3), all)); !linear.Same(q, all) || ratio.Text(k) != "3" {
		t.Errorf("%v times", k)
	}
}
