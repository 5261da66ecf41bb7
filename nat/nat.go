// Package nat is layer 1: natural numbers, as great as a bench lets them be.
package nat

import (
	"cmp"
	"slices"

	"steelyard/api"
)

// limbBits is how many bits a limb has.
const limbBits = 32

// Bench is where numbers are reckoned with, of so many limbs at most.
type Bench struct {
	limbs int
	over  bool
}

// New gives a bench for numbers of so many limbs at most.
func New(limbs int) *Bench { return &Bench{limbs: max(limbs, 1)} }

// Limbs tells how many limbs numbers may have.
func (b *Bench) Limbs() int { return b.limbs }

// Over tells whether a number had too many limbs.
func (b *Bench) Over() bool { return b.over }

// Of gives the number of a number.
func Of(n uint64) api.Nat { return trim(api.Nat{uint32(n), uint32(n >> limbBits)}) }

// Right tells whether limbs are a number.
func Right(x api.Nat) bool { return len(x) == 0 || x[len(x)-1] != 0 }

// Cmp tells whether x is less than y (-1), is y (0), or is greater (1).
func Cmp(x, y api.Nat) int { return compare(trim(x), trim(y)) }

// fit gives x, a number; nothing, and the bench is over, if it has too many limbs.
func (b *Bench) fit(x api.Nat) api.Nat {
	b.over = b.over || len(x) > b.limbs
	if b.over {
		return nil
	}
	return x
}

// trim gives limbs without the noughts at their end, in the same memory.
func trim(x api.Nat) api.Nat {
	n := len(x)
	for n > 0 && x[n-1] == 0 {
		n--
	}
	if n == 0 {
		return nil
	}
	return x[:n]
}

// compare is Cmp for limbs without noughts at their end.
func compare(x, y api.Nat) int {
	if len(x) != len(y) {
		return cmp.Compare(len(x), len(y))
	}
	for i, limb := range slices.Backward(x) {
		if limb != y[i] {
			return cmp.Compare(limb, y[i])
		}
	}
	return 0
}

// word gives the number of two limbs at most.
func word(x api.Nat) uint64 {
	n := uint64(0)
	for i, limb := range x {
		n |= uint64(limb) << (limbBits * i)
	}
	return n
}
