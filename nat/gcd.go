package nat

import (
	"math/bits"
	"slices"

	"steelyard/api"
)

// Gcd gives the greatest number that divides both.
func (b *Bench) Gcd(x, y api.Nat) api.Nat {
	if b.over {
		return nil
	}
	return b.fit(gcd(trim(x), trim(y)))
}

// gcd gives the greatest number that divides both, in new memory.
func gcd(x, y api.Nat) api.Nat {
	if compare(x, y) < 0 {
		x, y = y, x
	}
	if len(y) == 0 {
		return slices.Clone(x)
	}
	// One division makes both about as long: what takes off bit by bit is slow where they aren't.
	_, rest := divide(x, y)
	if len(rest) == 0 {
		return slices.Clone(y)
	}
	if len(y) <= 2 {
		return Of(gcdWord(word(y), word(rest)))
	}
	return gcdLong(slices.Clone(y), rest)
}

// gcdWord is gcd for numbers of two limbs at most.
func gcdWord(x, y uint64) uint64 {
	for y > 0 {
		x, y = y, x%y
	}
	return x
}

// gcdLong is gcd for numbers that aren't 0; it uses up their memory.
func gcdLong(x, y api.Nat) api.Nat {
	// Twos that are in one of both alone don't matter, so both are kept odd.
	twos := min(zeros(x), zeros(y))
	x, y = shiftRight(x, zeros(x)), shiftRight(y, zeros(y))
	for len(x) > 2 || len(y) > 2 {
		switch compare(x, y) {
		case 0:
			return raise(x, twos)
		case -1:
			x, y = y, x
		}
		x = takeOff(x, y)
		x = shiftRight(x, zeros(x))
	}
	return raise(Of(gcdWord(word(x), word(y))), twos)
}

// zeros tells how many bits below the lowest one that is set x has; x isn't 0.
func zeros(x api.Nat) int {
	skip := 0
	for x[skip] == 0 {
		skip++
	}
	return skip*limbBits + bits.TrailingZeros32(x[skip])
}

// raise gives x times 2^by in new memory.
func raise(x api.Nat, by int) api.Nat {
	low := make(api.Nat, by/limbBits)
	return trim(append(low, shiftLeft(x, by%limbBits)...))
}
