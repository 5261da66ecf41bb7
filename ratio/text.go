package ratio

import (
	"strings"

	"steelyard/api"
	"steelyard/nat"
)

// mostBytes is how many bytes a decimal number may have.
const mostBytes = 10_000

// Text gives a number as a text.
func Text(x api.Ratio) string {
	out := nat.Text(x.Num.Mag)
	if x.Num.Neg {
		out = "-" + out
	}
	if len(x.Den) > 0 {
		out += "/" + nat.Text(x.Den)
	}
	return out
}

// Term gives a number as a term of SMT-LIB.
func Term(x api.Ratio) string {
	out := nat.Text(x.Num.Mag) + ".0"
	if len(x.Den) > 0 {
		out = "(/ " + out + " " + nat.Text(x.Den) + ".0)"
	}
	if x.Num.Neg {
		out = "(- " + out + ")"
	}
	return out
}

// Decimal gives the number of digits, and of some behind a point.
func Decimal(b *nat.Bench, s string) (api.Ratio, bool) {
	if b.Over() || len(s) > mostBytes {
		return api.Ratio{}, false
	}
	whole, part, point := strings.Cut(s, ".")
	if whole == "" || point && part == "" {
		return api.Ratio{}, false
	}
	// What is written out may have more limbs than its one form.
	way := unbounded()
	num, ok := way.Parse(whole + part)
	if !ok {
		return api.Ratio{}, false
	}
	den, _ := way.Parse("1" + strings.Repeat("0", len(part)))
	x := Make(b, false, num, den)
	return x, !b.Over()
}
