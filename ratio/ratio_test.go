package ratio_test

import (
	"fmt"
	"math"
	"math/big"
	"strings"
	"testing"

	"steelyard/api"
	"steelyard/nat"
	"steelyard/ratio"
)

func TestP21Of(t *testing.T) {
	for _, n := range []int64{0, 1, -1, 7, -7, math.MaxUint32, 1 << 32, -(1 << 32), math.MaxInt64, -math.MaxInt64, math.MinInt64} {
		same(t, fmt.Sprint("Of ", n), ratio.Of(n), new(big.Rat).SetInt64(n))
	}
}

func TestP21Make(t *testing.T) {
	for _, c := range []struct {
		neg      bool
		num, den api.Nat
		want     string
	}{
		{false, api.Nat{6}, api.Nat{4}, "3/2"},
		{true, api.Nat{6}, api.Nat{4}, "-3/2"},
		{false, api.Nat{3}, api.Nat{7}, "3/7"},
		{false, api.Nat{8}, api.Nat{4}, "2"},
		{true, api.Nat{4}, api.Nat{4}, "-1"},
		{false, api.Nat{4}, api.Nat{8}, "1/2"},
		{true, api.Nat{5}, api.Nat{1}, "-5"},
		{false, nil, api.Nat{5}, "0"},
		{true, nil, api.Nat{5}, "0"},
		{true, nil, api.Nat{1}, "0"},
		{false, power(64, 0), power(32, 0), "4294967296"},
		{false, power(64, -1), power(32, -1), "4294967297"},
		// A denominator 0 makes 0, whatever the other is.
		{false, api.Nat{5}, nil, "0"},
		{true, api.Nat{5}, api.Nat{}, "0"},
		{true, nil, nil, "0"},
		{true, power(96, 0), api.Nat{0, 0}, "0"},
		// Rows with noughts at their end count as the numbers that they are without.
		{true, api.Nat{6, 0}, api.Nat{4, 0, 0}, "-3/2"},
		{false, api.Nat{3, 0}, api.Nat{1, 0}, "3"},
		{false, api.Nat{3, 0, 0}, api.Nat{7, 0}, "3/7"},
		{true, api.Nat{0, 0}, api.Nat{7, 0}, "0"},
	} {
		b := nat.New(2)
		x := ratio.Make(b, c.neg, c.num, c.den)
		if want := read(t, c.want); !equal(x, want) || b.Over() {
			t.Errorf("Make(%v, %v, %v): %v, not %v, over: %v", c.neg, c.num, c.den, x, want, b.Over())
		}
	}
}

func TestP21Right(t *testing.T) {
	for _, x := range samples(300) {
		if !ratio.Right(x) {
			t.Errorf("%v isn't right", x)
		}
	}
	for _, x := range append(oddRatios(), []api.Ratio{
		{Den: api.Nat{1}}, {Den: api.Nat{2}}, {Den: api.Nat{0}}, {Num: api.Whole{Neg: true}},
		{Num: api.Whole{Mag: api.Nat{0}}}, {Num: api.Whole{Mag: api.Nat{3, 0}}}, {Num: api.Whole{Mag: api.Nat{3}}, Den: api.Nat{7, 0}},
		{Num: api.Whole{Mag: api.Nat{2}}, Den: api.Nat{4}}, {Num: api.Whole{Mag: api.Nat{3}}, Den: api.Nat{1}},
		{Num: api.Whole{Mag: api.Nat{3}}, Den: api.Nat{3}}, {Num: api.Whole{Mag: power(128, 0)}, Den: power(96, 0)},
		{Num: api.Whole{Neg: true, Mag: api.Nat{9}}, Den: api.Nat{6}}, {Num: api.Whole{Mag: power(128, -1)}, Den: power(64, 1)},
	}...) {
		if ratio.Right(x) {
			t.Errorf("%v is right", x)
		}
	}
	empty := api.Ratio{Num: api.Whole{Mag: api.Nat{}}, Den: api.Nat{}}
	if !ratio.Right(empty) || !ratio.Right(api.Ratio{Num: api.Whole{Neg: true, Mag: api.Nat{5}}, Den: api.Nat{}}) {
		t.Error("a list without elements isn't right")
	}
}

func TestP21NegSign(t *testing.T) {
	for _, x := range samples(300) {
		r := toRat(x)
		same(t, "Neg", ratio.Neg(x), new(big.Rat).Neg(r))
		if ratio.Sign(x) != r.Sign() {
			t.Errorf("Sign of %v: %d", x, ratio.Sign(x))
		}
	}
	same(t, "Neg of 0", ratio.Neg(api.Ratio{}), new(big.Rat))
	long := whole(power(4000, -1))
	same(t, "Neg of many limbs", ratio.Neg(long), new(big.Rat).Neg(toRat(long)))
}

func TestP21Cmp(t *testing.T) {
	list := samples(120)
	for _, s := range []string{"1/3", "1/2", "2/3", "-1/3", "-1/2", "4294967295/4294967296", "4294967296/4294967297", "3", "10/3"} {
		list = append(list, read(t, s))
	}
	for _, x := range list {
		for _, y := range list {
			if want := toRat(x).Cmp(toRat(y)); ratio.Cmp(x, y) != want {
				t.Errorf("Cmp of %v and %v: %d, not %d", x, y, ratio.Cmp(x, y), want)
			}
		}
	}
}

func TestP22AgainstBig(t *testing.T) {
	list := samples(80)
	for _, op := range operations() {
		for _, x := range list {
			for _, y := range list {
				b := nat.New(60)
				same(t, op.name, op.do(b, x, y), op.want(toRat(x), toRat(y)))
				if b.Over() {
					t.Errorf("%s of %v and %v: over", op.name, x, y)
				}
			}
		}
	}
}

func TestP22Numbers(t *testing.T) {
	for _, c := range [][5]string{
		// x, y, and their sum, difference, product
		{"1/2", "1/3", "5/6", "1/6", "1/6"},
		{"1/6", "1/3", "1/2", "-1/6", "1/18"},
		{"1/6", "1/10", "4/15", "1/15", "1/60"},
		{"-1/2", "1/2", "0", "-1", "-1/4"},
		{"3/4", "-3/4", "0", "3/2", "-9/16"},
		{"0", "-2/3", "-2/3", "2/3", "0"},
		{"2/3", "3/2", "13/6", "-5/6", "1"},
		{"7", "1/7", "50/7", "48/7", "1"},
		{"-5", "3", "-2", "-8", "-15"},
		{"0", "0", "0", "0", "0"},
	} {
		b := nat.New(1)
		x, y := read(t, c[0]), read(t, c[1])
		for i, got := range []api.Ratio{ratio.Add(b, x, y), ratio.Sub(b, x, y), ratio.Mul(b, x, y)} {
			if want := read(t, c[2+i]); !equal(got, want) || b.Over() {
				t.Errorf("%s and %s: %v, not %v", c[0], c[1], got, want)
			}
		}
	}
}

func TestP22DivByZero(t *testing.T) {
	b := nat.New(1)
	for _, x := range []api.Ratio{{}, ratio.Of(1), ratio.Of(-7), read(t, "2/3"), whole(power(320, 0))} {
		if z := ratio.Div(b, x, api.Ratio{}); !equal(z, api.Ratio{}) || b.Over() {
			t.Errorf("%v through 0: %v, over: %v", x, z, b.Over())
		}
	}
	if z := ratio.Div(b, read(t, "-4/3"), read(t, "2/9")); !equal(z, ratio.Of(-6)) {
		t.Errorf("%v", z)
	}
}

// limbsOf tells how many limbs the longer part of a number's one form has.
func limbsOf(r *big.Rat) int {
	x := fromRat(r)
	return max(len(x.Num.Mag), len(x.Den))
}

// P2.2: a bench for just so many limbs as the answer's one form has, and for one less, whatever the numbers handed in and those on the way have.
func TestP22JustAsManyLimbs(t *testing.T) {
	list := samples(60)
	for _, op := range operations() {
		for _, x := range list {
			for _, y := range list {
				want := op.want(toRat(x), toRat(y))
				limbs := max(limbsOf(want), 1)
				b := nat.New(limbs)
				same(t, op.name, op.do(b, x, y), want)
				if b.Over() {
					t.Errorf("%s of %v and %v on a bench for %d limbs: over", op.name, x, y, limbs)
				}
				if limbs == 1 {
					continue
				}
				c := nat.New(limbs - 1)
				if z := op.do(c, x, y); !c.Over() || !equal(z, api.Ratio{}) {
					t.Errorf("%s of %v and %v on a bench for %d limbs: %v, over: %v", op.name, x, y, limbs-1, z, c.Over())
				}
			}
		}
	}
}

func TestP22OnTheWay(t *testing.T) {
	p, q := whole(power(128, 0)), whole(power(128, -1))
	small := api.Ratio{Num: api.Whole{Mag: api.Nat{1}}, Den: power(128, 0)}
	for i, do := range []func(b *nat.Bench) api.Ratio{
		func(b *nat.Bench) api.Ratio { return ratio.Sub(b, p, q) },
		func(b *nat.Bench) api.Ratio { return ratio.Add(b, ratio.Neg(q), p) },
		func(b *nat.Bench) api.Ratio { return ratio.Mul(b, p, small) },
		func(b *nat.Bench) api.Ratio { return ratio.Div(b, p, p) },
		func(b *nat.Bench) api.Ratio { return ratio.Make(b, false, power(512, 0), power(512, 0)) },
		func(b *nat.Bench) api.Ratio {
			return ratio.Make(b, false, append(api.Nat{1}, make(api.Nat, 9)...), api.Nat{1, 0, 0})
		},
	} {
		b := nat.New(1)
		if x := do(b); !equal(x, ratio.Of(1)) || b.Over() {
			t.Errorf("%d: %v, over: %v", i, x, b.Over())
		}
	}
	// Num alone, and Den alone, may be what has too many limbs.
	for _, x := range []api.Ratio{p, small, ratio.Neg(p), ratio.Neg(small)} {
		for _, limbs := range []int{4, 5} {
			b := nat.New(limbs)
			y := ratio.Add(b, x, api.Ratio{})
			if fits := limbs == 5; b.Over() == fits || fits && !equal(y, x) || !fits && !equal(y, api.Ratio{}) {
				t.Errorf("%v on a bench for %d limbs: %v, over: %v", x, limbs, y, b.Over())
			}
		}
	}
}

func TestP22OverAhead(t *testing.T) {
	for _, op := range operations() {
		for _, x := range samples(20) {
			b := overBench(t, 3)
			if z := op.do(b, x, ratio.Of(1)); !equal(z, api.Ratio{}) || !b.Over() {
				t.Errorf("%s of %v on a bench that is over: %v", op.name, x, z)
			}
		}
	}
	b := nat.New(1)
	if x := ratio.Mul(b, ratio.Of(1<<31), ratio.Of(2)); !b.Over() || !equal(x, api.Ratio{}) {
		t.Errorf("%v, over: %v", x, b.Over())
	}
	if x := ratio.Add(b, ratio.Of(1), ratio.Of(1)); !b.Over() || !equal(x, api.Ratio{}) {
		t.Errorf("it is over no more: %v", x)
	}
	// These need no bench.
	if ratio.Cmp(ratio.Of(1), ratio.Of(2)) != -1 || !equal(ratio.Neg(ratio.Of(1)), ratio.Of(-1)) {
		t.Error("Cmp or Neg")
	}
}

// allAnswers gives what all calls answer, at ratios that aren't in their one form too, as a text.
func allAnswers() string {
	var out strings.Builder
	say := func(list ...any) { fmt.Fprintln(&out, list...) }
	list := append(oddRatios(), samples(10)...)
	list = append(list, api.Ratio{Num: api.Whole{Mag: make(api.Nat, 300)}, Den: make(api.Nat, 300)})
	kept := nat.New(3)
	for _, x := range list {
		say(ratio.Right(x), ratio.Neg(x), ratio.Sign(x), ratio.Text(x), ratio.Term(x))
		for _, y := range list {
			say(ratio.Cmp(x, y), ratio.Make(nat.New(1), true, x.Num.Mag, y.Den))
			for _, op := range operations()[:4] {
				say(op.name, op.do(nat.New(9), x, y), op.do(nat.New(-1), x, y), op.do(kept, x, y), kept.Over())
			}
		}
	}
	for _, limbs := range []int{math.MinInt, 0, 1, math.MaxInt} {
		for _, s := range append(wrongTexts(), rightTexts()...) {
			x, ok := ratio.Decimal(nat.New(limbs), s)
			say(x, ok)
		}
	}
	say(ratio.Of(0), ratio.Of(math.MinInt64))
	return out.String()
}

// P1: a call that panics ends the test, one that doesn't end is cut off.
func TestP1NoCallPanics(t *testing.T) {
	defer func() {
		if e := recover(); e != nil {
			t.Errorf("a call panics: %v", e)
		}
	}()
	if allAnswers() == "" {
		t.Error("nothing was called")
	}
}

// P2: the same calls give the same answers, whatever goes on between them.
func TestP2SameCallsSameAnswers(t *testing.T) {
	first := allAnswers()
	overBench(t, 1)
	if allAnswers() != first {
		t.Error("the same calls answer otherwise")
	}
}
