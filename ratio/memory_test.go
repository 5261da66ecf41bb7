package ratio_test

import (
	"slices"
	"testing"

	"steelyard/api"
	"steelyard/nat"
	"steelyard/ratio"
)

// roomy gives a ratio whose lists have room behind them, that nobody may touch, and all of that memory.
func roomy(x api.Ratio) (api.Ratio, [2]api.Nat) {
	var all [2]api.Nat
	for i, part := range []api.Nat{x.Num.Mag, x.Den} {
		all[i] = append(slices.Clone(part), 0xabcdef, 0xabcdef)
	}
	x.Num.Mag, x.Den = all[0][:len(x.Num.Mag)], all[1][:len(x.Den)]
	return x, all
}

// spoil writes over all of the memory of a ratio.
func spoil(x api.Ratio) {
	for _, part := range []api.Nat{x.Num.Mag, x.Den} {
		part = part[:cap(part)]
		for i := range part {
			part[i] = 0xdead
		}
	}
}

// calls gives all calls that answer a ratio of ratios.
func calls() []operation {
	list := operations()[:4]
	return append(list,
		operation{name: "Neg", do: func(_ *nat.Bench, x, _ api.Ratio) api.Ratio { return ratio.Neg(x) }},
		operation{name: "Make", do: func(b *nat.Bench, x, y api.Ratio) api.Ratio {
			return ratio.Make(b, x.Num.Neg, x.Num.Mag, y.Num.Mag)
		}},
	)
}

// Rule 4: what is handed in isn't changed, and what is answered is new memory.
func TestNewMemory(t *testing.T) {
	list := append(samples(12), read(t, "1/18446744073709551617"), read(t, "18446744073709551617"), read(t, "-18446744073709551615/18446744073709551617"))
	for _, op := range calls() {
		for _, first := range list {
			for _, second := range list {
				x, allX := roomy(first)
				y, allY := roomy(second)
				kept := []api.Nat{slices.Clone(allX[0]), slices.Clone(allX[1]), slices.Clone(allY[0]), slices.Clone(allY[1])}
				z := op.do(nat.New(60), x, y)
				want := op.do(nat.New(60), first, second)
				if !equal(z, want) {
					t.Errorf("%s: %v, then %v", op.name, z, want)
				}
				spoilPart(t, op.name, z)
				for i, part := range []api.Nat{allX[0], allX[1], allY[0], allY[1]} {
					if !slices.Equal(part, kept[i]) {
						t.Errorf("%s of %v and %v changes what is handed in, or shares it", op.name, first, second)
					}
				}
				spoil(want)
				if again := op.do(nat.New(60), x, y); !ratio.Right(again) {
					t.Errorf("%s keeps what it answered: %v", op.name, again)
				}
			}
		}
	}
}

// spoilPart writes over a ratio, and tells an error, if its two lists share memory.
func spoilPart(t *testing.T, name string, z api.Ratio) {
	t.Helper()
	den := slices.Clone(z.Den)
	spoil(api.Ratio{Num: z.Num})
	if !slices.Equal(z.Den, den) {
		t.Errorf("%s: the lists of one answer share memory", name)
	}
	spoil(z)
}

func TestNewMemoryOfAndDecimal(t *testing.T) {
	spoil(ratio.Of(-12))
	if x := ratio.Of(-12); ratio.Text(x) != "-12" {
		t.Errorf("%v", x)
	}
	x, _ := ratio.Decimal(nat.New(2), "1.25")
	spoil(x)
	if y, ok := ratio.Decimal(nat.New(2), "1.25"); !ok || ratio.Text(y) != "5/4" {
		t.Errorf("%v", y)
	}
	// What is only looked at stays as it is.
	z, all := roomy(read(t, "-10/3"))
	kept := [2]api.Nat{slices.Clone(all[0]), slices.Clone(all[1])}
	ratio.Right(z)
	ratio.Cmp(z, ratio.Of(-3))
	if ratio.Sign(z) != -1 || ratio.Text(z) != "-10/3" || ratio.Term(z) != "(- (/ 10.0 3.0))" || !slices.Equal(all[0], kept[0]) || !slices.Equal(all[1], kept[1]) {
		t.Errorf("%v", z)
	}
}
