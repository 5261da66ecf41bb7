package delta_test

import (
	"math/big"
	"math/rand/v2"
	"testing"

	"steelyard/api"
	"steelyard/delta"
	"steelyard/nat"
	"steelyard/ratio"
)

func TestP32At(t *testing.T) {
	for _, c := range [][3]string{
		// x, delta, and the number
		{"4 -3", "1/2", "5/2"}, {"0 0", "5", "0"}, {"7/2 0", "1/9", "7/2"}, {"1 2", "0", "1"}, {"0 2/3", "3/2", "1"}, {"1 1", "-1", "0"}, {"-1 -1/2", "1/2", "-5/4"},
	} {
		b := nat.New(1)
		if got := ratio.Text(delta.At(b, read(t, c[0]), part(t, c[1]))); got != c[2] || b.Over() {
			t.Errorf("%s at %s: %s, not %s", c[0], c[1], got, c[2])
		}
	}
	b := nat.New(1000)
	for _, x := range samples(60) {
		for _, d := range ratios(rand.New(rand.NewPCG(7, 8)), 20) {
			want := new(big.Rat).Mul(rat(x.B), rat(d))
			samePart(t, "At", delta.At(b, x, d), want.Add(want, rat(x.A)))
		}
	}
}

func TestP32AtOver(t *testing.T) {
	for _, c := range [][2]string{
		// The product, the sum, and the number without delta are too great.
		{"1 65536", "65536"}, {"4294967295 1", "1"}, {"4294967296 0", "1"}, {"0 1/65536", "1/65536"}, {"1/65537 1", "1/65536"},
		// The product is, though the sum isn't.
		{"-1 65536", "65536"},
	} {
		b := nat.New(1)
		if x := delta.At(b, read(t, c[0]), part(t, c[1])); !b.Over() || !noPart(x) {
			t.Errorf("%s at %s: %v, over: %v", c[0], c[1], x, b.Over())
		}
		if d := nat.New(2); noPart(delta.At(d, read(t, c[0]), part(t, c[1]))) || d.Over() {
			t.Errorf("%s at %s for two limbs", c[0], c[1])
		}
	}
	for _, x := range samples(20) {
		b := overBench(2)
		if y := delta.At(b, x, ratio.Of(1)); !noPart(y) || !b.Over() {
			t.Errorf("%v on a bench that is over: %v", x, y)
		}
	}
}

func TestP32Small(t *testing.T) {
	for i, c := range []struct {
		pairs [][2]string
		want  string
	}{
		{nil, "1"},
		// One pair: at 1 or above it, less than it, at just 1.
		{[][2]string{{"1 3", "9 1"}}, "1"},
		{[][2]string{{"1 3", "2 -1"}}, "1/4"},
		{[][2]string{{"1 3", "3 1"}}, "1"},
		{[][2]string{{"1/2 1/3", "2/3 -1/6"}}, "1/3"},
		{[][2]string{{"-3 0", "-2 -5/2"}}, "2/5"},
		// Such as don't count: x's A isn't less, x's B isn't greater.
		{[][2]string{{"2 3", "2 1"}}, "1"},
		{[][2]string{{"2 1", "2 3"}}, "1"},
		{[][2]string{{"2 1", "2 1"}}, "1"},
		{[][2]string{{"3 9", "2 1"}}, "1"},
		{[][2]string{{"3 1", "2 9"}}, "1"},
		{[][2]string{{"1 2", "2 2"}}, "1"},
		{[][2]string{{"1 -3", "2 1"}}, "1"},
		{[][2]string{{"3 0", "2 0"}}, "1"},
		// Of many the least, wherever it stands.
		{[][2]string{{"1 3", "2 -1"}, {"1 -3", "2 1"}, {"3 0", "2 0"}}, "1/4"},
		{[][2]string{{"0 2", "1 0"}, {"0 3", "1 0"}, {"0 5", "1 0"}}, "1/5"},
		{[][2]string{{"0 5", "1 0"}, {"0 3", "1 0"}, {"0 2", "1 0"}}, "1/5"},
		{[][2]string{{"0 3", "1 0"}, {"0 5", "1 0"}, {"0 1", "9 0"}, {"2 5", "2 0"}}, "1/5"},
	} {
		b := nat.New(1)
		x := delta.Small(b, readPairs(t, c.pairs...))
		if ratio.Text(x) != c.want || !ratio.Right(x) || b.Over() {
			t.Errorf("%d: %v, not %s, over: %v", i, x, c.want, b.Over())
		}
	}
}

func TestP32SmallOver(t *testing.T) {
	for i, pairs := range [][][2]string{
		// The difference of the As, of the Bs, and the one through the other are too great.
		{{"-1 1", "4294967295 0"}},
		{{"0 4294967295", "1 -1"}},
		{{"0 1/65536", "65536 0"}},
		{{"0 65536", "1/65536 0"}},
		// A difference is, though the one through the other isn't.
		{{"-1 65536", "4294967295 0"}},
		{{"0 4294967295", "65536 -1"}},
		// So with others ahead and behind.
		{{"0 2", "1 0"}, {"-1 1", "4294967295 0"}},
		{{"-1 1", "4294967295 0"}, {"0 2", "1 0"}, {"1 0", "2 0"}},
	} {
		b := nat.New(1)
		if x := delta.Small(b, readPairs(t, pairs...)); !b.Over() || !noPart(x) {
			t.Errorf("%d: %v, over: %v", i, x, b.Over())
		}
		if c := nat.New(2); noPart(delta.Small(c, readPairs(t, pairs...))) || c.Over() {
			t.Errorf("%d for two limbs", i)
		}
	}
	// What doesn't count isn't reckoned, however great it is.
	b := nat.New(1)
	x := delta.Small(b, readPairs(t, [2]string{"-4294967295 0", "4294967295 1"}, [2]string{"4294967295 4294967295", "-1 -1"}, [2]string{"4294967296 4294967296", "4294967296 0"}))
	if ratio.Text(x) != "1" || b.Over() {
		t.Errorf("%v, over: %v", x, b.Over())
	}
	// A bench that was over ahead answers 0 also where no pair is reckoned.
	for _, pairs := range [][][2]api.Delta{nil, {}, readPairs(t, [2]string{"2 0", "1 0"}), readPairs(t, [2]string{"0 2", "1 0"})} {
		c := overBench(3)
		if x := delta.Small(c, pairs); !noPart(x) || !c.Over() {
			t.Errorf("%v on a bench that is over: %v", pairs, x)
		}
	}
}

// smallest gives the Small of pairs, by the words of the document.
func smallest(pairs [][2]api.Delta) *big.Rat {
	least := big.NewRat(1, 1)
	for _, pair := range pairs {
		x, y := pair[0], pair[1]
		as := new(big.Rat).Sub(rat(y.A), rat(x.A))
		bs := new(big.Rat).Sub(rat(x.B), rat(y.B))
		if as.Sign() > 0 && bs.Sign() > 0 && as.Quo(as, bs).Cmp(least) < 0 {
			least = as
		}
	}
	return least
}

// P3.3: pairs that aren't turned round aren't at Small, nor at less.
func TestP33NoPairTurnsRound(t *testing.T) {
	r := rand.New(rand.NewPCG(9, 10))
	list := samples(60)
	for range 400 {
		var pairs [][2]api.Delta
		for range r.IntN(5) {
			x, y := list[r.IntN(len(list))], list[r.IntN(len(list))]
			if delta.Cmp(x, y) > 0 {
				x, y = y, x
			}
			pairs = append(pairs, [2]api.Delta{x, y})
		}
		b := nat.New(1000)
		d := delta.Small(b, pairs)
		samePart(t, "Small", d, smallest(pairs))
		for _, times := range []string{"1", "999/1000", "1/2", "1/7", "1/1000000007", "1/340282366920938463463374607431768211456"} {
			less := ratio.Mul(b, d, part(t, times))
			for _, pair := range pairs {
				x, y := delta.At(b, pair[0], less), delta.At(b, pair[1], less)
				if ratio.Sign(less) != 1 || ratio.Cmp(x, y) > 0 {
					t.Errorf("%s and %s turn round at %s", delta.Text(pair[0]), delta.Text(pair[1]), ratio.Text(less))
				}
			}
		}
		if b.Over() {
			t.Error("the bench is over")
		}
	}
}

// Example 1: 1 - delta is less than 1, and above each rational number below 1.
func TestExample(t *testing.T) {
	x := read(t, "1 -1")
	if delta.Cmp(x, delta.Of(ratio.Of(1))) != -1 {
		t.Error("1 - delta isn't less than 1")
	}
	for _, s := range []string{"0", "-1", "1/2", "999999/1000000", "340282366920938463463374607431768211455/340282366920938463463374607431768211456"} {
		if delta.Cmp(x, delta.Of(part(t, s))) != 1 {
			t.Errorf("1 - delta isn't above %s", s)
		}
	}
}
