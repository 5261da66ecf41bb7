package ratio

import (
	"steelyard/api"
	"steelyard/nat"
)

// Add gives a sum.
func Add(b *nat.Bench, x, y api.Ratio) api.Ratio {
	if b.Over() {
		return api.Ratio{}
	}
	xDen, yDen := through(x), through(y)
	both := common(xDen, yDen)
	xPart, yPart := without(xDen, both), without(yDen, both)
	times := unbounded().Mul
	sum := addWholes(
		api.Whole{Neg: x.Num.Neg, Mag: times(x.Num.Mag, yPart)},
		api.Whole{Neg: y.Num.Neg, Mag: times(y.Num.Mag, xPart)},
	)
	// What divides just one Den divides but one of the two that are added, and so not the sum.
	num, rest := cancel(sum.Mag, both)
	return fit(b, sum.Neg, num, times(times(xPart, yPart), rest))
}

// Sub gives a difference.
func Sub(b *nat.Bench, x, y api.Ratio) api.Ratio {
	y.Num.Neg = !y.Num.Neg
	return Add(b, x, y)
}

// Mul gives a product.
func Mul(b *nat.Bench, x, y api.Ratio) api.Ratio {
	if b.Over() {
		return api.Ratio{}
	}
	// Nothing divides the Num and the Den of one ratio: only crosswise can they be cancelled.
	xNum, yDen := cancel(x.Num.Mag, through(y))
	yNum, xDen := cancel(y.Num.Mag, through(x))
	times := unbounded().Mul
	return fit(b, x.Num.Neg != y.Num.Neg, times(xNum, yNum), times(xDen, yDen))
}

// Div gives x through y; 0, if y is 0.
func Div(b *nat.Bench, x, y api.Ratio) api.Ratio {
	if isZero(y.Num.Mag) {
		return api.Ratio{}
	}
	return Mul(b, x, api.Ratio{Num: api.Whole{Neg: y.Num.Neg, Mag: through(y)}, Den: y.Num.Mag})
}

// addWholes gives a sum of integers.
func addWholes(x, y api.Whole) api.Whole {
	way := unbounded()
	if x.Neg == y.Neg {
		return api.Whole{Neg: x.Neg, Mag: way.Add(x.Mag, y.Mag)}
	}
	if nat.Cmp(x.Mag, y.Mag) < 0 {
		x, y = y, x
	}
	return api.Whole{Neg: x.Neg, Mag: way.Sub(x.Mag, y.Mag)}
}
