package nat

import (
	"slices"
	"strconv"
	"strings"

	"steelyard/api"
)

// mostDigits is how many digits a text may have.
const mostDigits = 10_000

// groupDigits is how many digits are read and told at once: as many as a limb holds for sure.
const (
	groupDigits = 9
	groupTimes  = 1_000_000_000
)

// Text gives a number in decimal digits.
func Text(x api.Nat) string {
	left := slices.Clone(trim(x))
	if len(left) == 0 {
		return "0"
	}
	// A limb needs fewer than 10 digits; the last group may be full of noughts but for one.
	out := make([]byte, 10*len(left)+groupDigits)
	at := len(out)
	for len(left) > 0 {
		var group uint32
		left, group = shrink(left, groupTimes)
		for range groupDigits {
			at--
			out[at] = '0' + byte(group%10)
			group /= 10
		}
	}
	return strings.TrimLeft(string(out[at:]), "0")
}

// Parse gives the number of decimal digits.
func (b *Bench) Parse(s string) (api.Nat, bool) {
	if b.over || !digits(s) {
		return nil, false
	}
	var x api.Nat
	for len(s) > 0 {
		// The first group is the short one, so that those behind it are full.
		n := (len(s)-1)%groupDigits + 1
		group, _ := strconv.ParseUint(s[:n], 10, limbBits)
		x = grow(x, groupTimes, uint32(group))
		// It only becomes greater from here.
		if len(x) > b.limbs {
			b.over = true
			return nil, false
		}
		s = s[n:]
	}
	return x, true
}

// digits tells whether a text is of digits alone, and of as many as may be.
func digits(s string) bool {
	if len(s) == 0 || len(s) > mostDigits {
		return false
	}
	for i := range len(s) {
		if s[i] < '0' || s[i] > '9' {
			return false
		}
	}
	return true
}

// grow gives x so many times, and more, in x's memory as far as that goes.
func grow(x api.Nat, times, more uint32) api.Nat {
	carry := uint64(more)
	for i, limb := range x {
		carry += uint64(limb) * uint64(times)
		x[i] = uint32(carry)
		carry >>= limbBits
	}
	if carry > 0 {
		x = append(x, uint32(carry))
	}
	return x
}
