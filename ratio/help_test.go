package ratio_test

import (
	"math/big"
	"math/rand/v2"
	"slices"
	"testing"

	"steelyard/api"
	"steelyard/nat"
	"steelyard/ratio"
)

// toInt gives the number of limbs.
func toInt(x api.Nat) *big.Int {
	n := new(big.Int)
	for _, limb := range slices.Backward(x) {
		n.Lsh(n, 32).Or(n, big.NewInt(int64(limb)))
	}
	return n
}

// fromInt gives the limbs of a number that isn't below 0.
func fromInt(n *big.Int) api.Nat {
	var x api.Nat
	left := new(big.Int).Set(n)
	mask := big.NewInt(1<<32 - 1)
	for left.Sign() > 0 {
		x = append(x, uint32(new(big.Int).And(left, mask).Uint64()))
		left.Rsh(left, 32)
	}
	return x
}

// toRat gives the rational number that a ratio is.
func toRat(x api.Ratio) *big.Rat {
	num, den := toInt(x.Num.Mag), big.NewInt(1)
	if x.Num.Neg {
		num.Neg(num)
	}
	if len(x.Den) > 0 {
		den = toInt(x.Den)
	}
	return new(big.Rat).SetFrac(num, den)
}

// fromRat gives a rational number in its one form.
func fromRat(r *big.Rat) api.Ratio {
	num := api.Whole{Neg: r.Sign() < 0, Mag: fromInt(new(big.Int).Abs(r.Num()))}
	if r.IsInt() {
		return api.Ratio{Num: num}
	}
	return api.Ratio{Num: num, Den: fromInt(r.Denom())}
}

// read gives the ratio of a text such as -3/4.
func read(t *testing.T, s string) api.Ratio {
	t.Helper()
	r, ok := new(big.Rat).SetString(s)
	if !ok {
		t.Fatalf("%q is no number", s)
	}
	return fromRat(r)
}

// equal tells whether ratios are the same, limb by limb.
func equal(x, y api.Ratio) bool {
	return x.Num.Neg == y.Num.Neg && slices.Equal(x.Num.Mag, y.Num.Mag) && slices.Equal(x.Den, y.Den)
}

// same tells an error, if a ratio isn't a rational number in its one form.
func same(t *testing.T, what string, got api.Ratio, want *big.Rat) {
	t.Helper()
	if !equal(got, fromRat(want)) {
		t.Errorf("%s: %v, not %v", what, got, fromRat(want))
	}
}

// power gives 2^n, plus more.
func power(n uint, more int64) api.Nat {
	p := new(big.Int).Lsh(big.NewInt(1), n)
	return fromInt(p.Add(p, big.NewInt(more)))
}

// whole gives the integer of a number.
func whole(x api.Nat) api.Ratio { return api.Ratio{Num: api.Whole{Mag: x}} }

// overBench gives a bench of so many limbs that is over.
func overBench(t *testing.T, limbs int) *nat.Bench {
	t.Helper()
	b := nat.New(limbs)
	if b.Add(power(32*uint(limbs), 0), nil); !b.Over() {
		t.Fatalf("a bench for %d limbs isn't over", limbs)
	}
	return b
}

// samples gives ratios in their one form, of many lengths: small ones, whose parts have much in common, and great ones.
func samples(count int) []api.Ratio {
	r := rand.New(rand.NewPCG(3, 4))
	list := []api.Ratio{{}, ratio.Of(1), ratio.Of(-1), ratio.Of(2), ratio.Of(-1 << 63)}
	for i := range count {
		part := func() *big.Int {
			n := big.NewInt(1)
			for range r.IntN(1 + i%8) {
				n.Mul(n, big.NewInt(1+r.Int64N(1<<r.IntN(40))))
			}
			return n
		}
		x := new(big.Rat).SetFrac(part(), part())
		if r.IntN(2) == 0 {
			x.Neg(x)
		}
		list = append(list, fromRat(x))
	}
	return list
}

// oddRatios are ratios of all kinds that aren't in their one form.
func oddRatios() []api.Ratio {
	rows := []api.Nat{nil, {}, {0}, {0, 0}, {1}, {1, 0}, {2}, {6}, {6, 0, 0}, {0, 4}, {0, 0, 8, 0}, {9, 9, 9, 9}}
	var list []api.Ratio
	for _, num := range rows {
		for _, den := range rows {
			for _, neg := range []bool{false, true} {
				x := api.Ratio{Num: api.Whole{Neg: neg, Mag: num}, Den: den}
				if !oneForm(x) {
					list = append(list, x)
				}
			}
		}
	}
	return list
}

// oneForm tells whether a ratio is in its one form, by the words of the document.
func oneForm(x api.Ratio) bool {
	num, den := x.Num.Mag, x.Den
	for _, part := range []api.Nat{num, den} {
		if len(part) > 0 && part[len(part)-1] == 0 {
			return false
		}
	}
	if len(num) == 0 {
		return !x.Num.Neg && len(den) == 0
	}
	if len(den) == 0 {
		return true
	}
	common := new(big.Int).GCD(nil, nil, toInt(num), toInt(den))
	return common.IsInt64() && common.Int64() == 1 && !slices.Equal(den, api.Nat{1})
}

// operation is a call that answers a ratio of two, on a bench, and what it reckons.
type operation struct {
	name string
	do   func(b *nat.Bench, x, y api.Ratio) api.Ratio
	want func(x, y *big.Rat) *big.Rat
}

// operations gives all calls that answer a ratio of two, on a bench.
func operations() []operation {
	return []operation{
		{"Add", ratio.Add, func(x, y *big.Rat) *big.Rat { return new(big.Rat).Add(x, y) }},
		{"Sub", ratio.Sub, func(x, y *big.Rat) *big.Rat { return new(big.Rat).Sub(x, y) }},
		{"Mul", ratio.Mul, func(x, y *big.Rat) *big.Rat { return new(big.Rat).Mul(x, y) }},
		{"Div", ratio.Div, divide},
		{"Make", makeOf, divide},
	}
}

// makeOf divides integers by Make, and what aren't integers by what both Nums are.
func makeOf(b *nat.Bench, x, y api.Ratio) api.Ratio {
	num := new(big.Int).Mul(toInt(x.Num.Mag), toRat(y).Denom())
	den := new(big.Int).Mul(toInt(y.Num.Mag), toRat(x).Denom())
	return ratio.Make(b, x.Num.Neg != y.Num.Neg, fromInt(num), fromInt(den))
}

// divide gives x through y; 0, if y is 0.
func divide(x, y *big.Rat) *big.Rat {
	if y.Sign() == 0 {
		return new(big.Rat)
	}
	return new(big.Rat).Quo(x, y)
}
