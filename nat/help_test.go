package nat_test

import (
	"math/big"
	"math/rand/v2"
	"slices"
	"testing"

	"steelyard/api"
	"steelyard/nat"
)

// toBig gives the number of limbs, noughts at their end or not.
func toBig(x api.Nat) *big.Int {
	n := new(big.Int)
	for _, limb := range slices.Backward(x) {
		n.Lsh(n, 32).Or(n, big.NewInt(int64(limb)))
	}
	return n
}

// fromBig gives the limbs of a number.
func fromBig(n *big.Int) api.Nat {
	var x api.Nat
	left := new(big.Int).Set(n)
	mask := big.NewInt(1<<32 - 1)
	for left.Sign() > 0 {
		x = append(x, uint32(new(big.Int).And(left, mask).Uint64()))
		left.Rsh(left, 32)
	}
	return x
}

// power gives 2^n, plus more.
func power(n uint, more int64) api.Nat {
	p := new(big.Int).Lsh(big.NewInt(1), n)
	return fromBig(p.Add(p, big.NewInt(more)))
}

// same tells an error, if limbs aren't just those of a number.
func same(t *testing.T, what string, got api.Nat, want *big.Int) {
	t.Helper()
	if !slices.Equal(got, fromBig(want)) {
		t.Errorf("%s: %v, not %v", what, got, fromBig(want))
	}
}

// samples gives numbers of many lengths: limbs of all kinds, and such as make a guessed limb wrong.
func samples(count int) []api.Nat {
	r := rand.New(rand.NewPCG(1, 2))
	edges := []uint32{0, 1, 2, 1<<31 - 1, 1 << 31, 1<<31 + 1, 1<<32 - 2, 1<<32 - 1}
	list := []api.Nat{nil}
	for i := range count {
		x := make(api.Nat, 1+r.IntN(1+i%12))
		for j := range x {
			x[j] = r.Uint32()
			if r.IntN(2) == 0 {
				x[j] = edges[r.IntN(len(edges))]
			}
		}
		x[len(x)-1] = max(x[len(x)-1], 1)
		list = append(list, x)
	}
	return list
}

// overBench gives a bench of so many limbs that is over.
func overBench(t *testing.T, limbs int) *nat.Bench {
	t.Helper()
	b := nat.New(limbs)
	if x := b.Add(power(32*uint(limbs), 0), nil); len(x) != 0 || !b.Over() {
		t.Fatalf("a bench for %d limbs isn't over: %v", limbs, x)
	}
	return b
}

// operation is a call of a bench that answers numbers.
type operation struct {
	name string
	do   func(b *nat.Bench, x, y api.Nat) []api.Nat
}

// operations gives all calls of a bench that answer numbers, Parse of x's text and of y's among them.
func operations() []operation {
	one := func(f func(*nat.Bench, api.Nat, api.Nat) api.Nat) func(*nat.Bench, api.Nat, api.Nat) []api.Nat {
		return func(b *nat.Bench, x, y api.Nat) []api.Nat { return []api.Nat{f(b, x, y)} }
	}
	return []operation{
		{"Add", one((*nat.Bench).Add)},
		{"Sub", one((*nat.Bench).Sub)},
		{"Mul", one((*nat.Bench).Mul)},
		{"Gcd", one((*nat.Bench).Gcd)},
		{"Div", func(b *nat.Bench, x, y api.Nat) []api.Nat {
			times, rest := b.Div(x, y)
			return []api.Nat{times, rest}
		}},
		{"Parse", func(b *nat.Bench, x, y api.Nat) []api.Nat {
			first, _ := b.Parse(nat.Text(x))
			second, _ := b.Parse(nat.Text(y))
			return []api.Nat{first, second}
		}},
	}
}

// reckon gives what a call answers where limbs aren't bounded.
func reckon(name string, x, y *big.Int) []*big.Int {
	z := new(big.Int)
	switch name {
	case "Add":
		return []*big.Int{z.Add(x, y)}
	case "Sub":
		if x.Cmp(y) > 0 {
			z.Sub(x, y)
		}
		return []*big.Int{z}
	case "Mul":
		return []*big.Int{z.Mul(x, y)}
	case "Gcd":
		return []*big.Int{z.GCD(nil, nil, x, y)}
	case "Div":
		if y.Sign() == 0 {
			return []*big.Int{z, z}
		}
		times, rest := new(big.Int).QuoRem(x, y, z)
		return []*big.Int{times, rest}
	}
	return []*big.Int{x, y}
}
