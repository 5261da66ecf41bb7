package script

import (
	"math"
	"strings"

	"steelyard/api"
	"steelyard/nat"
	"steelyard/ratio"
)

// fewDigits is of how many digits a number is read at once.
const fewDigits = 9_000

// decimal gives the number of a numeral, or of a decimal; false, if it has too many limbs.
func decimal(b *nat.Bench, text string) (api.Ratio, bool) {
	if len(text) <= fewDigits {
		return ratio.Decimal(b, text)
	}
	whole, part, _ := strings.Cut(text, ".")
	part = strings.TrimRight(part, "0")
	digits := whole + part
	// In lowest terms each digit behind the point doubles at least what is divided by, and each one ahead of it makes the number eight times as great, or more. So this many have too many limbs for sure, and needn't be reckoned.
	if len(digits)/64 > b.Limbs() {
		return api.Ratio{}, false
	}
	x := ratio.Make(b, false, digitsOf(digits), digitsOf("1"+strings.Repeat("0", len(part))))
	return x, !b.Over()
}

// digitsOf gives the number of digits, however many they are.
func digitsOf(digits string) api.Nat {
	b := nat.New(math.MaxInt32)
	var sum api.Nat
	for len(digits) > 0 {
		few := min(len(digits), fewDigits)
		shift, _ := b.Parse("1" + strings.Repeat("0", few))
		next, _ := b.Parse(digits[:few])
		sum = b.Add(b.Mul(sum, shift), next)
		digits = digits[few:]
	}
	return sum
}
