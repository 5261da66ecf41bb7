package nat

import (
	"slices"

	"steelyard/api"
)

// Add gives a sum.
func (b *Bench) Add(x, y api.Nat) api.Nat {
	if b.over {
		return nil
	}
	return b.fit(add(x, y))
}

// Sub gives a difference; nothing, if y is greater.
func (b *Bench) Sub(x, y api.Nat) api.Nat {
	x, y = trim(x), trim(y)
	if b.over || compare(x, y) < 0 {
		return nil
	}
	return b.fit(takeOff(slices.Clone(x), y))
}

// Mul gives a product.
func (b *Bench) Mul(x, y api.Nat) api.Nat {
	x, y = trim(x), trim(y)
	if b.over || len(x) == 0 || len(y) == 0 {
		return nil
	}
	// A product has that many limbs or one more: none is reckoned in vain.
	if len(x)+len(y)-1 > b.limbs {
		b.over = true
		return nil
	}
	return b.fit(multiply(x, y))
}

// add gives a sum in new memory; noughts at the end of what it adds do no harm.
func add(x, y api.Nat) api.Nat {
	n := max(len(x), len(y))
	sum := make(api.Nat, n, n+1)
	parts := [2]api.Nat{x, y}
	carry := uint64(0)
	for i := range n {
		for _, part := range parts {
			if i < len(part) {
				carry += uint64(part[i])
			}
		}
		sum[i] = uint32(carry)
		carry >>= limbBits
	}
	if carry > 0 {
		sum = append(sum, uint32(carry))
	}
	return trim(sum)
}

// takeOff gives x less y in x's memory; x is y or greater.
func takeOff(x, y api.Nat) api.Nat {
	borrow := uint64(0)
	for i := range x {
		if i >= len(y) && borrow == 0 {
			break
		}
		left := uint64(x[i]) - borrow
		if i < len(y) {
			left -= uint64(y[i])
		}
		x[i] = uint32(left)
		// Below 0 it wraps round, and its upper half isn't 0.
		borrow = left >> (2*limbBits - 1)
	}
	return trim(x)
}

// multiply gives the product of two numbers, none of them 0, in new memory.
func multiply(x, y api.Nat) api.Nat {
	product := make(api.Nat, len(x)+len(y))
	for i, limb := range x {
		row := product[i : i+len(y)+1]
		carry := uint64(0)
		for j, other := range y {
			carry += uint64(limb)*uint64(other) + uint64(row[j])
			row[j] = uint32(carry)
			carry >>= limbBits
		}
		row[len(y)] = uint32(carry)
	}
	return trim(product)
}
