package delta_test

import (
	"fmt"
	"math"
	"math/big"
	"math/rand/v2"
	"slices"
	"strings"
	"testing"

	"steelyard/api"
	"steelyard/delta"
	"steelyard/nat"
	"steelyard/ratio"
)

func TestP31Of(t *testing.T) {
	for _, x := range ratios(rand.New(rand.NewPCG(1, 1)), 40) {
		same(t, "Of", delta.Of(x), rat(x), new(big.Rat))
	}
}

func TestP31Numbers(t *testing.T) {
	b := nat.New(1)
	for _, c := range [][4]string{
		// x, y, and the texts of their sum and their difference
		{"0 0", "0 0", "0", "0"},
		{"1 2", "3 -5", "4-3d", "-2+7d"},
		{"1/2 -1/3", "1/3 1/6", "5/6-1/6d", "1/6-1/2d"},
		{"-1 1", "1 -1", "0", "-2+2d"},
		{"5 7", "5 -7", "10", "0+14d"},
		{"0 1", "0 1", "0+2d", "0"},
		{"-3/4 0", "3/4 1/2", "0+1/2d", "-3/2-1/2d"},
	} {
		x, y := read(t, c[0]), read(t, c[1])
		if sum := delta.Text(delta.Add(b, x, y)); sum != c[2] {
			t.Errorf("%s and %s: %s, not %s", c[0], c[1], sum, c[2])
		}
		if less := delta.Text(delta.Sub(b, x, y)); less != c[3] {
			t.Errorf("%s less %s: %s, not %s", c[0], c[1], less, c[3])
		}
	}
	for _, c := range [][3]string{
		{"2", "3 -5", "6-10d"}, {"-1/2", "4 -3", "-2+3/2d"}, {"0", "7 9", "0"}, {"3", "0 0", "0"}, {"-1", "0 1", "0-1d"}, {"3/2", "2/3 0", "1"}, {"1", "-1/7 1/9", "-1/7+1/9d"},
	} {
		if x := delta.Text(delta.Scale(b, part(t, c[0]), read(t, c[1]))); x != c[2] {
			t.Errorf("%s times %s: %s, not %s", c[0], c[1], x, c[2])
		}
	}
	if b.Over() {
		t.Error("the bench is over")
	}
}

func TestP31AgainstBig(t *testing.T) {
	list := samples(60)
	b := nat.New(1000)
	for _, x := range list {
		for _, y := range list {
			for _, op := range operations() {
				same(t, op.name, op.do(b, x, y), op.want(rat(x.A), rat(y.A)), op.want(rat(x.B), rat(y.B)))
			}
			k := rat(y.A)
			same(t, "Scale", delta.Scale(b, y.A, x), new(big.Rat).Mul(k, rat(x.A)), new(big.Rat).Mul(k, rat(x.B)))
		}
	}
	if b.Over() {
		t.Error("the bench is over")
	}
}

// sums gives the calls that add two numbers of texts: by Add, and by Sub of the opposite.
func sums(t *testing.T, first, second string) []func(b *nat.Bench) api.Delta {
	t.Helper()
	x, y := read(t, first), read(t, second)
	minus := api.Delta{A: ratio.Neg(y.A), B: ratio.Neg(y.B)}
	return []func(b *nat.Bench) api.Delta{
		func(b *nat.Bench) api.Delta { return delta.Add(b, x, y) },
		func(b *nat.Bench) api.Delta { return delta.Sub(b, x, minus) },
	}
}

// product gives the call that scales a number of a text.
func product(t *testing.T, times, number string) func(b *nat.Bench) api.Delta {
	t.Helper()
	k, x := part(t, times), read(t, number)
	return func(b *nat.Bench) api.Delta { return delta.Scale(b, k, x) }
}

// fitting gives calls whose answers just fit on a bench for one limb.
func fitting(t *testing.T) []func(b *nat.Bench) api.Delta {
	t.Helper()
	return slices.Concat(
		sums(t, "4294967295 4294967295", "0 0"),
		sums(t, "4294967294 1", "1 4294967294"),
		sums(t, "1 -4294967295", "1 0"),
		sums(t, "0 1/4294967295", "0 0"),
		[]func(b *nat.Bench) api.Delta{
			product(t, "1", "4294967295 -4294967295"),
			product(t, "0", "4294967296 1/4294967296"),
			product(t, "-1/4294967295", "4294967295 1"),
			product(t, "65537", "65535 -65535"),
		},
	)
}

// tooGreat gives calls whose answers don't fit on a bench for one limb: the first part, the second one, or both.
func tooGreat(t *testing.T) []func(b *nat.Bench) api.Delta {
	t.Helper()
	return slices.Concat(
		sums(t, "4294967295 2", "1 3"),
		sums(t, "2 4294967295", "3 1"),
		sums(t, "4294967295 -4294967295", "1 -1"),
		sums(t, "1/4294967295 2", "1/2 3"),
		sums(t, "2 1/4294967295", "3 1/2"),
		sums(t, "4294967296 1", "0 0"),
		sums(t, "1 4294967296", "0 0"),
		[]func(b *nat.Bench) api.Delta{
			product(t, "2", "4294967295 1"),
			product(t, "2", "1 4294967295"),
			product(t, "-2", "4294967295 4294967295"),
			product(t, "1/2", "1/4294967295 1"),
			product(t, "1/2", "1 1/4294967295"),
			product(t, "65536", "-65536 65535"),
			product(t, "65536", "65535 65536"),
		},
	)
}

// P3.1: where one part alone is too great, all of the answer is 0.
func TestP31BecomesOver(t *testing.T) {
	for i, do := range fitting(t) {
		b := nat.New(1)
		if x := do(b); b.Over() || delta.Cmp(x, do(nat.New(9))) != 0 {
			t.Errorf("fits %d: %v, over: %v", i, x, b.Over())
		}
	}
	for i, do := range tooGreat(t) {
		b := nat.New(1)
		if x := do(b); !b.Over() || !nothing(x) {
			t.Errorf("too great %d: %v, over: %v", i, x, b.Over())
		}
		if c := nat.New(2); nothing(do(c)) || c.Over() {
			t.Errorf("too great %d for two limbs", i)
		}
	}
}

func TestP31OverAhead(t *testing.T) {
	for _, x := range samples(20) {
		b := overBench(3)
		for _, op := range operations() {
			if z := op.do(b, x, read(t, "1 2")); !nothing(z) {
				t.Errorf("%s of %v on a bench that is over: %v", op.name, x, z)
			}
		}
		if z := delta.Scale(b, ratio.Of(1), x); !nothing(z) || !b.Over() {
			t.Errorf("Scale of %v on a bench that is over: %v", x, z)
		}
	}
}

func TestP31Cmp(t *testing.T) {
	list := samples(100)
	for _, x := range list {
		for _, y := range list {
			want := rat(x.A).Cmp(rat(y.A))
			if want == 0 {
				want = rat(x.B).Cmp(rat(y.B))
			}
			if got := delta.Cmp(x, y); got != want {
				t.Errorf("Cmp of %s and %s: %d, not %d", delta.Text(x), delta.Text(y), got, want)
			}
		}
	}
	for i, c := range []struct {
		x, y string
		want int
	}{
		{"1 -9", "1 0", -1}, {"1 -9", "0 9", 1}, {"1 2", "1 2", 0}, {"1 2", "1 1", 1}, {"-1 0", "1 0", -1}, {"1/2 5", "1/2 11/2", -1},
		{"1 -1", "1 0", -1}, {"1 -1", "999999/1000000 1000000", 1}, {"0 -1", "0 1", -1},
	} {
		if got := delta.Cmp(read(t, c.x), read(t, c.y)); got != c.want {
			t.Errorf("%d: Cmp of %s and %s: %d", i, c.x, c.y, got)
		}
	}
}

func TestP31Text(t *testing.T) {
	for _, c := range [][2]string{
		{"0 0", "0"}, {"5 0", "5"}, {"-5/3 0", "-5/3"}, {"0 1", "0+1d"}, {"0 -1", "0-1d"}, {"4 -3", "4-3d"}, {"-2 3/2", "-2+3/2d"}, {"-1/2 -7/9", "-1/2-7/9d"},
		{"1 4294967296", "1+4294967296d"}, {"18446744073709551616 -1/18446744073709551616", "18446744073709551616-1/18446744073709551616d"},
	} {
		if got := delta.Text(read(t, c[0])); got != c[1] {
			t.Errorf("%s: %s, not %s", c[0], got, c[1])
		}
	}
}

// allAnswers gives what all calls answer, at numbers whose parts aren't in their one form too, as a text.
func allAnswers() string {
	var out strings.Builder
	say := func(list ...any) { fmt.Fprintln(&out, list...) }
	list := append(oddNumbers(), samples(10)...)
	kept := nat.New(2)
	for i, x := range list {
		say(delta.Of(x.A), delta.Of(x.B), delta.Text(x))
		for j, y := range list {
			say(delta.Cmp(x, y))
			pairs := [][2]api.Delta{{x, y}, {y, x}, {list[(i+j)%len(list)], x}}
			for _, b := range []*nat.Bench{nat.New(9), nat.New(math.MinInt), kept} {
				say(delta.Add(b, x, y), delta.Sub(b, x, y), delta.Scale(b, y.A, x))
				say(delta.Small(b, pairs), delta.At(b, x, y.B), b.Over())
			}
		}
	}
	return out.String()
}

// P1: a call that panics ends the test, one that doesn't end is cut off.
func TestP1NoCallPanics(t *testing.T) {
	defer func() {
		if e := recover(); e != nil {
			t.Errorf("a call panics: %v", e)
		}
	}()
	if allAnswers() == "" {
		t.Error("nothing was called")
	}
}

// P2: the same calls give the same answers, whatever goes on between them.
func TestP2SameCallsSameAnswers(t *testing.T) {
	first := allAnswers()
	delta.Small(overBench(1), nil)
	if allAnswers() != first {
		t.Error("the same calls answer otherwise")
	}
}
