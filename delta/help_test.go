package delta_test

import (
	"math/big"
	"math/rand/v2"
	"slices"
	"strings"
	"testing"

	"steelyard/api"
	"steelyard/delta"
	"steelyard/nat"
	"steelyard/ratio"
)

// part gives the ratio of a text such as -3/4.
func part(t *testing.T, s string) api.Ratio {
	t.Helper()
	b := nat.New(100)
	digits, neg := strings.CutPrefix(s, "-")
	first, second, through := strings.Cut(digits, "/")
	x, ok := ratio.Decimal(b, first)
	if through {
		den, right := ratio.Decimal(b, second)
		x, ok = ratio.Div(b, x, den), ok && right
	}
	if neg {
		x = ratio.Neg(x)
	}
	if !ok || ratio.Text(x) != s {
		t.Fatalf("%q is no ratio in its one form", s)
	}
	return x
}

// read gives the number of a text such as "4 -3", an A and a B.
func read(t *testing.T, s string) api.Delta {
	t.Helper()
	a, b, ok := strings.Cut(s, " ")
	if !ok {
		t.Fatalf("%q is no number", s)
	}
	return api.Delta{A: part(t, a), B: part(t, b)}
}

// readPairs gives pairs of texts' numbers.
func readPairs(t *testing.T, texts ...[2]string) [][2]api.Delta {
	t.Helper()
	var list [][2]api.Delta
	for _, s := range texts {
		list = append(list, [2]api.Delta{read(t, s[0]), read(t, s[1])})
	}
	return list
}

// rat gives the rational number that a ratio is.
func rat(x api.Ratio) *big.Rat {
	r, ok := new(big.Rat).SetString(ratio.Text(x))
	if !ok {
		panic("no ratio: " + ratio.Text(x))
	}
	return r
}

// samePart tells an error, if a ratio isn't a rational number in its one form.
func samePart(t *testing.T, what string, got api.Ratio, want *big.Rat) {
	t.Helper()
	if !ratio.Right(got) || rat(got).Cmp(want) != 0 {
		t.Errorf("%s: %v, not %s", what, got, want.RatString())
	}
}

// same tells an error, if a number isn't of that A and that B, each in its one form.
func same(t *testing.T, what string, got api.Delta, a, b *big.Rat) {
	t.Helper()
	samePart(t, what+", A", got.A, a)
	samePart(t, what+", B", got.B, b)
}

// nothing tells whether all of a number is 0.
func nothing(x api.Delta) bool { return noPart(x.A) && noPart(x.B) }

// noPart tells whether a ratio is the zero value.
func noPart(x api.Ratio) bool { return !x.Num.Neg && len(x.Num.Mag) == 0 && len(x.Den) == 0 }

// overBench gives a bench for so many limbs that is over.
func overBench(limbs int) *nat.Bench {
	b := nat.New(limbs)
	b.Add(append(make(api.Nat, b.Limbs()), 1), nil)
	if !b.Over() {
		panic("a bench isn't over")
	}
	return b
}

// ratios gives ratios in their one form, of unlike lengths, some of them there twice.
func ratios(r *rand.Rand, count int) []api.Ratio {
	b := nat.New(1000)
	list := []api.Ratio{{}, ratio.Of(1), ratio.Of(-1)}
	for i := range count {
		x := ratio.Of(r.Int64N(9) - 4)
		if i%3 == 0 {
			x = ratio.Of(int64(r.Uint64()))
		}
		list = append(list, ratio.Div(b, x, ratio.Of(1+r.Int64N(1<<r.IntN(50)))))
	}
	return list
}

// samples gives numbers whose parts are in their one form; many have the same A, or the same B.
func samples(count int) []api.Delta {
	r := rand.New(rand.NewPCG(5, 6))
	parts := ratios(r, 12)
	list := []api.Delta{{}}
	for range count {
		list = append(list, api.Delta{A: parts[r.IntN(len(parts))], B: parts[r.IntN(len(parts))]})
	}
	return list
}

// oddNumbers gives numbers whose parts aren't all in their one form.
func oddNumbers() []api.Delta {
	rows := []api.Nat{nil, {}, {0}, {0, 0}, {1}, {1, 0}, {6}, {6, 0, 0}, {0, 4}, {9, 9, 9}}
	var parts []api.Ratio
	for _, num := range rows {
		for _, den := range rows {
			for _, neg := range []bool{false, true} {
				parts = append(parts, api.Ratio{Num: api.Whole{Neg: neg, Mag: num}, Den: den})
			}
		}
	}
	var list []api.Delta
	for i, x := range parts {
		if y := parts[(7*i+3)%len(parts)]; !ratio.Right(x) || !ratio.Right(y) {
			list = append(list, api.Delta{A: x, B: y})
		}
	}
	return list
}

// operation is a call that answers a number of two, on a bench, and what it reckons of each part.
type operation struct {
	name string
	do   func(b *nat.Bench, x, y api.Delta) api.Delta
	want func(x, y *big.Rat) *big.Rat
}

// operations gives all calls that answer a number on a bench but Scale.
func operations() []operation {
	return []operation{
		{"Add", delta.Add, func(x, y *big.Rat) *big.Rat { return new(big.Rat).Add(x, y) }},
		{"Sub", delta.Sub, func(x, y *big.Rat) *big.Rat { return new(big.Rat).Sub(x, y) }},
	}
}

// cloned gives a ratio in memory of its own, with room behind its lists that nobody may touch, and all of that memory.
func cloned(x api.Ratio) (api.Ratio, []api.Nat) {
	num := append(slices.Clone(x.Num.Mag), 0xabcdef, 0xabcdef)
	den := append(slices.Clone(x.Den), 0xabcdef, 0xabcdef)
	x.Num.Mag, x.Den = num[:len(x.Num.Mag)], den[:len(x.Den)]
	return x, []api.Nat{num, den}
}
