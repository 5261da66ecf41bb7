package linear_test

import (
	"math"
	"math/rand/v2"
	"slices"
	"strconv"
	"testing"

	"steelyard/api"
	"steelyard/linear"
	"steelyard/nat"
	"steelyard/ratio"
)

func TestP121Of(t *testing.T) {
	for _, v := range []int{0, 1, 2, 77, 1 << 32, math.MaxInt} {
		p := linear.Of(v)
		same(t, "Of "+strconv.Itoa(v), p, "0 1@"+strconv.Itoa(v))
		if !linear.Right(p) {
			t.Errorf("%v isn't right", p)
		}
	}
}

func TestP121Right(t *testing.T) {
	for _, s := range []string{
		"0", "5", "-5/3", "0 1@0", "0 1@9223372036854775807", "1 -1/2@0 3@1", "0 1@3 1@4 1@9", "7/2 18446744073709551617/4294967296@2 -1@9223372036854775807",
	} {
		if !linear.Right(read(t, s)) {
			t.Errorf("%s isn't right", s)
		}
	}
	for _, p := range []api.Poly{{Monos: []api.Mono{}}, {Const: api.Ratio{Num: api.Whole{Mag: api.Nat{}}, Den: api.Nat{}}}} {
		if !linear.Right(p) {
			t.Errorf("%v isn't right", p)
		}
	}
	for _, p := range samples(200) {
		if !linear.Right(p) {
			t.Errorf("%s isn't right", text(p))
		}
	}
}

// A sum isn't right, whichever of its unknowns it is that is wrong.
func TestP121RightUnknowns(t *testing.T) {
	for _, s := range []string{
		"0 1@-1", "0 1@-9223372036854775808", "0 1@-2 1@-1", "0 1@-1 1@0", "0 1@0 1@-1", "0 1@0 1@0", "0 1@5 1@5", "0 1@5 2@5", "0 1@5 -1@5", "0 1@1 1@0",
		"0 1@0 1@1 1@1", "0 1@0 1@2 1@1", "0 1@0 1@0 1@1", "0 1@1 1@2 1@0", "0 1@9223372036854775807 1@0", "0 1@9223372036854775807 1@9223372036854775807",
		"0 0@0", "0 0@3 1@4", "0 1@0 0@1", "0 1@0 0@1 1@2", "0 1@0 1@1 0@2",
	} {
		if linear.Right(read(t, s)) {
			t.Errorf("%s is right", s)
		}
	}
}

// A sum isn't right, whichever of its numbers it is that isn't in its one form.
func TestP121RightNumbers(t *testing.T) {
	for _, x := range oddRatios() {
		if p := (api.Poly{Const: x}); linear.Right(p) {
			t.Errorf("%v is right", p)
		}
		p := read(t, "1 2@0 -1/3@4 5@9")
		p.Const = x
		if linear.Right(p) {
			t.Errorf("%v is right", p)
		}
		for i := range p.Monos {
			p = read(t, "1 2@0 -1/3@4 5@9")
			p.Monos[i].Coef = x
			if linear.Right(p) {
				t.Errorf("%v is right", p)
			}
		}
	}
}

func TestP121Same(t *testing.T) {
	list := []string{
		"0", "1", "-1", "2", "1/2", "-1/2", "1/3", "4294967296", "4294967297", "1/4294967297", "1/8589934592",
		"0 1@0", "0 -1@0", "0 2@0", "0 1/2@0", "0 -1/2@0", "0 1/3@0", "0 2/3@0", "0 4294967296@0", "0 1@1", "0 1@9223372036854775807",
		"1 1@0", "0 1@0 1@1", "0 1@0 1@2", "0 1@0 -1@1", "0 1@0 1/2@1", "0 2@0 1@1", "1 1@0 1@1", "0 1@1 1@2", "0 1@0 1@1 1@2",
	}
	for i, first := range list {
		for j, second := range list {
			p, q := read(t, first), read(t, second)
			if linear.Same(p, q) != (i == j) || linear.Same(p, p) != true {
				t.Errorf("Same of %s and %s", first, second)
			}
		}
	}
	// Lists without elements are one with those that are nil.
	empty := api.Poly{Const: api.Ratio{Num: api.Whole{Mag: api.Nat{}}, Den: api.Nat{}}, Monos: []api.Mono{}}
	if !linear.Same(empty, api.Poly{}) || !linear.Same(api.Poly{}, empty) {
		t.Error("a list without elements isn't one with a nil list")
	}
	three := api.Poly{Monos: []api.Mono{{Var: 1, Coef: api.Ratio{Num: api.Whole{Mag: api.Nat{3}}, Den: api.Nat{}}}}}
	if !linear.Same(three, read(t, "0 3@1")) {
		t.Error("3 through 1 isn't 3")
	}
}

func TestP123Value(t *testing.T) {
	for _, c := range []struct{ sum, reals, want string }{
		{"0", "", "0"}, {"-7/2", "", "-7/2"}, {"5", "1 2 3", "5"}, {"0 1@0", "3/4", "3/4"}, {"0 1@1", "3/4 -9", "-9"}, {"5 2@0 -4@3", "7 0 0 2", "11"},
		{"1/2 1/3@0 -1/6@1", "1 5", "0"}, {"0 1@0 1@1 1@2", "1 20 300", "321"}, {"1 -2@1", "1000 1/2", "0"}, {"0 3@2", "1 1 0 1", "0"}, {"-1 -1@0", "-1", "0"},
	} {
		b := nat.New(1)
		if x, code := linear.Value(b, read(t, c.sum), numbers(t, c.reals)); code != api.OK || !ratio.Right(x) || ratio.Text(x) != c.want || b.Over() {
			t.Errorf("%s of %s: %v, %v; not %s", c.sum, c.reals, x, code, c.want)
		}
	}
}

func TestP123ValueAgainstBig(t *testing.T) {
	r := rand.New(rand.NewPCG(9, 10))
	for _, p := range samples(400) {
		reals := make([]api.Ratio, 8+r.IntN(3))
		for i := range reals {
			reals[i] = someNumber(r, 3)
		}
		want := modelOf(p).value(reals)
		if x, code := linear.Value(nat.New(1000), p, reals); code != api.OK || !ratio.Right(x) || rat(x).Cmp(want) != 0 {
			t.Errorf("%s of %v: %v, %v; not %s", text(p), reals, x, code, want.RatString())
		}
		// Where what it is doesn't fit, the bench is over; where all on the way has room, it isn't.
		for limbs := 1; limbs < 60; limbs++ {
			b := nat.New(limbs)
			x, code := linear.Value(b, p, reals)
			switch {
			case code == api.OK && (b.Over() || tooGreat(want, limbs) || rat(x).Cmp(want) != 0):
				t.Errorf("%s of %v on %d limbs: %v", text(p), reals, limbs, x)
			case code != api.OK && (code != api.ErrOver || !b.Over() || !noNumber(x) || limbs > 50):
				t.Errorf("%s of %v on %d limbs: %v, %v", text(p), reals, limbs, x, code)
			}
		}
	}
}

// rangeError tells an error, if a value isn't ErrRange, or the bench isn't as it was.
func rangeError(t *testing.T, p api.Poly, reals []api.Ratio) {
	t.Helper()
	for _, b := range []*nat.Bench{nat.New(1), overBench(1)} {
		over := b.Over()
		if x, code := linear.Value(b, p, reals); code != api.ErrRange || !noNumber(x) || b.Over() != over {
			t.Errorf("%s of %d numbers: %v, %v, over: %v", text(p), len(reals), x, code, b.Over())
		}
	}
}

// Nothing is reckoned where an unknown isn't there, though a number be too great.
func TestP123Range(t *testing.T) {
	reals := numbers(t, "1 2 3")
	for _, s := range []string{
		"0 1@3", "5 1@3", "0 1@0 1@1 1@2 1@3", "0 1@1 -1/2@4", "0 1@9223372036854775807", "0 1@0 1@9223372036854775807", "0 1@4294967296", "0 1@4294967296 1@4294967297",
		"18446744073709551616 1@3", "0 18446744073709551616@3", "0 18446744073709551616@0 1@3", "0 18446744073709551616@0 1/18446744073709551616@7",
	} {
		rangeError(t, read(t, s), reals)
	}
	for n := range len(reals) {
		p := read(t, "4 1@"+strconv.Itoa(n))
		rangeError(t, p, reals[:n])
		if x, code := linear.Value(nat.New(1), p, reals[:n+1]); code != api.OK || ratio.Text(x) != strconv.Itoa(5+n) {
			t.Errorf("%s of %d numbers: %v, %v", text(p), n+1, x, code)
		}
	}
	rangeError(t, linear.Of(0), nil)
	rangeError(t, linear.Of(0), []api.Ratio{})
}

func TestP123Over(t *testing.T) {
	for _, c := range []struct{ sum, reals string }{
		// the number alone, a product, a sum of some that fit, a Den
		{"4294967296", ""}, {"-1/4294967296", ""}, {"4294967296", "1 2"}, {"0 4294967296@0", "1"}, {"0 1@0", "4294967296"}, {"0 65536@0", "65536"}, {"0 -1/65536@0", "1/65536"},
		{"4294967295 1@0", "1"}, {"-4294967295 1@0", "-1"}, {"0 1@0 1@1", "4294967295 1"}, {"1/65537 1@0", "1/65539"}, {"0 1/65537@0 1/65539@1", "1 1"},
	} {
		p, reals := read(t, c.sum), numbers(t, c.reals)
		b := nat.New(1)
		if x, code := linear.Value(b, p, reals); code != api.ErrOver || !noNumber(x) || !b.Over() {
			t.Errorf("%s of %s: %v, %v, over: %v", c.sum, c.reals, x, code, b.Over())
		}
		if x, code := linear.Value(nat.New(2), p, reals); code != api.OK || rat(x).Cmp(modelOf(p).value(reals)) != 0 {
			t.Errorf("%s of %s: %v, %v", c.sum, c.reals, x, code)
		}
	}
	for _, c := range []struct{ sum, reals, want string }{
		{"4294967295", "", "4294967295"}, {"1/4294967295", "", "1/4294967295"}, {"0 65537@0", "65535", "4294967295"}, {"4294967294 1@0", "1", "4294967295"},
		// What isn't of the sum isn't reckoned; what is handed in isn't an answer.
		{"0 1@1", "4294967296 3", "3"}, {"0 4294967296@0", "0", "0"}, {"0 1/4294967296@0", "4294967296", "1"}, {"1 4294967296@0", "3/4294967296", "4"},
	} {
		b := nat.New(1)
		if x, code := linear.Value(b, read(t, c.sum), numbers(t, c.reals)); code != api.OK || ratio.Text(x) != c.want || b.Over() {
			t.Errorf("%s of %s: %v, %v; not %s", c.sum, c.reals, x, code, c.want)
		}
	}
}

func TestP123OverAhead(t *testing.T) {
	for _, p := range samples(30) {
		b := overBench(5)
		if x, code := linear.Value(b, p, slices.Repeat(numbers(t, "1"), 8)); code != api.ErrOver || !noNumber(x) || !b.Over() {
			t.Errorf("%s: %v, %v", text(p), x, code)
		}
	}
}
