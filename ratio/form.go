package ratio

import (
	"math"

	"steelyard/api"
	"steelyard/nat"
)

// unbounded gives a bench for what is reckoned on the way, which no caller's bench bounds.
func unbounded() *nat.Bench { return nat.New(math.MaxInt32) }

// isZero tells whether a number is 0.
func isZero(x api.Nat) bool { return nat.Cmp(x, nil) == 0 }

// isOne tells whether a number is 1.
func isOne(x api.Nat) bool { return nat.Cmp(x, api.Nat{1}) == 0 }

// through gives what a ratio's Num is divided by, written out where it is 1.
func through(x api.Ratio) api.Nat {
	if len(x.Den) == 0 {
		return api.Nat{1}
	}
	return x.Den
}

// common gives the greatest number that divides both.
func common(x, y api.Nat) api.Nat {
	if isOne(x) || isOne(y) {
		return api.Nat{1}
	}
	return unbounded().Gcd(x, y)
}

// without gives x divided by a number that divides it; it may be x itself.
func without(x, by api.Nat) api.Nat {
	if isOne(by) {
		return x
	}
	times, _ := unbounded().Div(x, by)
	return times
}

// cancel gives both numbers without what divides both; they may be the same ones.
func cancel(x, y api.Nat) (api.Nat, api.Nat) {
	by := common(x, y)
	return without(x, by), without(y, by)
}

// fit gives a ratio in its one form, in new memory, of a num and a den in lowest terms; 0, and the bench is over, if one has too many limbs.
func fit(b *nat.Bench, neg bool, num, den api.Nat) api.Ratio {
	if isOne(den) {
		den = nil
	}
	// Only what a bench answers counts against it, so both are told as sums with nothing.
	num, den = b.Add(num, nil), b.Add(den, nil)
	if b.Over() || isZero(num) {
		return api.Ratio{}
	}
	return api.Ratio{Num: api.Whole{Neg: neg, Mag: num}, Den: den}
}
