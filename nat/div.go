package nat

import (
	"math/bits"
	"slices"

	"steelyard/api"
)

// Div gives how often y is in x, and what is left.
func (b *Bench) Div(x, y api.Nat) (api.Nat, api.Nat) {
	x, y = trim(x), trim(y)
	if b.over || len(y) == 0 {
		return nil, nil
	}
	times, rest := divide(x, y)
	times, rest = b.fit(times), b.fit(rest)
	if b.over {
		return nil, nil
	}
	return times, rest
}

// divide gives how often y, that isn't 0, is in x, and what is left, both in new memory.
func divide(x, y api.Nat) (api.Nat, api.Nat) {
	if compare(x, y) < 0 {
		return nil, slices.Clone(x)
	}
	if len(y) == 1 {
		times, rest := shrink(slices.Clone(x), y[0])
		return times, Of(uint64(rest))
	}
	return divideLong(x, y)
}

// shrink gives how often a limb that isn't 0 is in x, in x's memory, and what is left.
func shrink(x api.Nat, by uint32) (api.Nat, uint32) {
	rest := uint64(0)
	for i, limb := range slices.Backward(x) {
		rest = rest<<limbBits | uint64(limb)
		x[i] = uint32(rest / uint64(by))
		rest %= uint64(by)
	}
	return trim(x), uint32(rest)
}

// divideLong is divide for a y of two limbs or more, and an x that isn't less: Knuth's algorithm D.
func divideLong(x, y api.Nat) (api.Nat, api.Nat) {
	// With its greatest bit set, y's first two limbs tell each limb of the answer to within one.
	shift := bits.LeadingZeros32(y[len(y)-1])
	y = shiftLeft(y, shift)[:len(y)]
	rest := shiftLeft(x, shift)
	times := make(api.Nat, len(x)-len(y)+1)
	for i := range slices.Backward(times) {
		part := rest[i : i+len(y)+1]
		times[i] = takeTimes(part, y, guess(part, y))
	}
	return trim(times), shiftRight(rest, shift)
}

// guess tells how often y is in x, which has one limb more, or one time too much; no more than a limb holds.
func guess(x, y api.Nat) uint32 {
	n := len(y)
	top := uint64(x[n])<<limbBits | uint64(x[n-1])
	first, second := uint64(y[n-1]), uint64(y[n-2])
	times := min(top/first, 1<<limbBits-1)
	rest := top - times*first
	for rest>>limbBits == 0 && times*second > rest<<limbBits|uint64(x[n-2]) {
		times--
		rest += first
	}
	return uint32(times)
}

// takeTimes takes y off x so many times, or one time less if x has not so much, and tells how often it did.
func takeTimes(x, y api.Nat, times uint32) uint32 {
	carry := uint64(0)
	for i, limb := range y {
		carry += uint64(limb) * uint64(times)
		low := uint32(carry)
		carry >>= limbBits
		if x[i] < low {
			carry++
		}
		x[i] -= low
	}
	n := len(y)
	short := uint64(x[n]) < carry
	x[n] -= uint32(carry)
	if short {
		giveBack(x, y)
		times--
	}
	return times
}

// giveBack adds y to x, which has one limb more; what goes beyond that is dropped.
func giveBack(x, y api.Nat) {
	carry := uint64(0)
	for i, limb := range y {
		carry += uint64(x[i]) + uint64(limb)
		x[i] = uint32(carry)
		carry >>= limbBits
	}
	x[len(y)] += uint32(carry)
}

// shiftLeft gives x times 2^by in new memory, with one limb more, that may be 0; by is less than a limb's bits.
func shiftLeft(x api.Nat, by int) api.Nat {
	out := make(api.Nat, len(x)+1)
	for i, limb := range x {
		wide := uint64(limb) << by
		out[i] |= uint32(wide)
		out[i+1] = uint32(wide >> limbBits)
	}
	return out
}

// shiftRight gives x without its lowest bits, in x's memory.
func shiftRight(x api.Nat, by int) api.Nat {
	skip, by := by/limbBits, by%limbBits
	n := len(x) - skip
	for i := range n {
		wide := uint64(x[i+skip])
		if i+skip+1 < len(x) {
			wide |= uint64(x[i+skip+1]) << limbBits
		}
		x[i] = uint32(wide >> by)
	}
	return trim(x[:n])
}
