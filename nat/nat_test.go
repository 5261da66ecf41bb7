package nat_test

import (
	"fmt"
	"math"
	"math/big"
	"slices"
	"strings"
	"testing"

	"steelyard/api"
	"steelyard/nat"
)

// oddRows are rows of limbs of all kinds, some of which are no numbers.
func oddRows() []api.Nat {
	return []api.Nat{
		nil, {}, {0}, {0, 0, 0}, {1}, {1, 0}, {math.MaxUint32}, {0, 1}, {0, 1, 0, 0}, {7, 0, 9, 0},
		power(64, -1), power(64, 0), power(96, 1), make(api.Nat, 100), append(power(3200, -1), 0, 0),
	}
}

// wrongTexts are texts that tell no number.
func wrongTexts() []string {
	return []string{
		"", "-1", "+1", " 1", "1 ", "1_0", "0x1", "1.0", "1e3", "\x00", "\xff", "٣", "1٣", "/", ":", "9:", "/9", "0\n",
		strings.Repeat("0", 10_001), strings.Repeat("9", 10_001), strings.Repeat("9", 100) + "a", strings.Repeat("9", 9_999) + "a",
	}
}

// rightTexts are texts that tell a number.
func rightTexts() []string {
	return []string{
		"0", "00", "000000000000000000000", "7", "007", "4294967295", "4294967296", "000000000000000000001", "18446744073709551616",
		"999999999", "1000000000", "0123456789", strings.Repeat("9", 27), strings.Repeat("1234567890", 1000),
		strings.Repeat("9", 10_000), strings.Repeat("0", 9_999) + "1", strings.Repeat("0", 10_000),
	}
}

// allAnswers gives what all calls answer, on benches of all kinds, as a text.
func allAnswers() string {
	var out strings.Builder
	say := func(list ...any) { fmt.Fprintln(&out, list...) }
	for _, limbs := range []int{math.MinInt, -1, 0, 1, 2, 3, 200, math.MaxInt} {
		b := nat.New(limbs)
		for round := range 2 {
			for _, x := range oddRows() {
				say(round, nat.Right(x), nat.Text(x))
				for _, y := range oddRows() {
					say(nat.Cmp(x, y))
					for _, op := range operations() {
						say(op.name, op.do(nat.New(limbs), x, y), op.do(b, x, y), b.Over(), b.Limbs())
					}
				}
			}
			for _, s := range append(wrongTexts(), rightTexts()...) {
				x, ok := b.Parse(s)
				y, right := nat.New(limbs).Parse(s)
				say(x, ok, y, right)
			}
		}
	}
	for _, n := range []uint64{0, 1, math.MaxUint32, 1 << 32, math.MaxUint64} {
		say(nat.Of(n))
	}
	return out.String()
}

// P1: a call that panics ends the test, one that doesn't end is cut off.
func TestP1NoCallPanics(t *testing.T) {
	defer func() {
		if e := recover(); e != nil {
			t.Errorf("a call panics: %v", e)
		}
	}()
	if allAnswers() == "" {
		t.Error("nothing was called")
	}
}

// P2: the same calls give the same answers, whatever other benches go through between them.
func TestP2SameCallsSameAnswers(t *testing.T) {
	first := allAnswers()
	overBench(t, 1)
	if allAnswers() != first {
		t.Error("the same calls answer otherwise")
	}
	b := nat.New(2)
	before := b.Add(power(32, 0), nat.Of(5))
	overBench(t, 2)
	if after := b.Add(power(32, 0), nat.Of(5)); !slices.Equal(before, after) || b.Over() {
		t.Errorf("%v, then %v", before, after)
	}
}

func TestP11NewLimbsOver(t *testing.T) {
	for limbs, want := range map[int]int{math.MinInt: 1, -1: 1, 0: 1, 1: 1, 2: 2, 77: 77, math.MaxInt: math.MaxInt} {
		b := nat.New(limbs)
		if b.Limbs() != want || b.Over() {
			t.Errorf("New(%d): %d limbs, over: %v", limbs, b.Limbs(), b.Over())
		}
	}
	for _, limbs := range []int{-1, 0, 1} {
		b := nat.New(limbs)
		if x := b.Add(nat.Of(math.MaxUint32), nil); !slices.Equal(x, api.Nat{math.MaxUint32}) || b.Over() {
			t.Errorf("New(%d) has no room for a limb", limbs)
		}
		if b.Add(nat.Of(math.MaxUint32), nat.Of(1)); !b.Over() {
			t.Errorf("New(%d) has room for two limbs", limbs)
		}
	}
	if b := overBench(t, 5); b.Limbs() != 5 {
		t.Errorf("over, Limbs: %d", b.Limbs())
	}
}

func TestP11Of(t *testing.T) {
	for n, want := range map[uint64]api.Nat{
		0:              nil,
		1:              {1},
		math.MaxUint32: {math.MaxUint32},
		1 << 32:        {0, 1},
		1<<40 + 5:      {5, 256},
		math.MaxUint64: {math.MaxUint32, math.MaxUint32},
	} {
		if x := nat.Of(n); !slices.Equal(x, want) {
			t.Errorf("Of(%d): %v", n, x)
		}
	}
}

func TestP11Right(t *testing.T) {
	for _, x := range []api.Nat{nil, {}, {1}, {0, 1}, {0, 0, math.MaxUint32}} {
		if !nat.Right(x) {
			t.Errorf("%v is a number", x)
		}
	}
	for _, x := range []api.Nat{{0}, {1, 0}, {0, 0}, {0, 1, 0}} {
		if nat.Right(x) {
			t.Errorf("%v is no number", x)
		}
	}
}

func TestP11Cmp(t *testing.T) {
	list := append(samples(60), oddRows()...)
	for _, x := range list {
		for _, y := range list {
			if got, want := nat.Cmp(x, y), toBig(x).Cmp(toBig(y)); got != want {
				t.Errorf("Cmp(%v, %v): %d, not %d", x, y, got, want)
			}
		}
	}
}

// P1.2: on a bench with room enough each call answers what the same call of math/big does.
func TestP12AgainstBig(t *testing.T) {
	b := nat.New(1000)
	list := append(samples(150), oddRows()...)
	for _, x := range list {
		for _, y := range list {
			for _, op := range operations() {
				want := reckon(op.name, toBig(x), toBig(y))
				for i, got := range op.do(b, x, y) {
					same(t, fmt.Sprint(op.name, i, x, y), got, want[i])
				}
				if t.Failed() {
					return
				}
			}
		}
	}
	if b.Over() {
		t.Error("over")
	}
}

// P1.2: divisors whose first limbs mislead, so that a limb of the answer is guessed too great.
func TestP12DivGuesses(t *testing.T) {
	b := nat.New(1000)
	check := func(x, y api.Nat) {
		t.Helper()
		times, rest := b.Div(x, y)
		want := reckon("Div", toBig(x), toBig(y))
		same(t, fmt.Sprint("times", x, y), times, want[0])
		same(t, fmt.Sprint("rest", x, y), rest, want[1])
	}
	check(api.Nat{0, 0, 1 << 31, 1<<31 - 1}, api.Nat{1, 0, 1 << 31})
	check(api.Nat{3, 0, 1 << 31}, api.Nat{1, 0, 1 << 29})
	check(api.Nat{0, math.MaxUint32 - 1, 1 << 31}, api.Nat{math.MaxUint32, 1 << 31})
	limbs := []uint32{0, 1, 1<<31 - 1, 1 << 31, math.MaxUint32 - 1, math.MaxUint32}
	for _, y0 := range limbs {
		for _, y1 := range limbs {
			for _, y2 := range limbs {
				y := api.Nat{y0, y1, y2}
				for _, x2 := range limbs {
					for _, x3 := range limbs {
						check(api.Nat{math.MaxUint32, y0, x2, x3}, y)
						check(api.Nat{0, y1, x2, x3, y2}, y)
					}
				}
			}
		}
	}
}

func TestP12Plain(t *testing.T) {
	b := nat.New(4)
	three, five, ten := nat.Of(3), nat.Of(5), nat.Of(10)
	times, rest := b.Div(ten, three)
	for i, c := range []struct{ got, want api.Nat }{
		{b.Add(five, three), nat.Of(8)},
		{b.Sub(five, three), nat.Of(2)},
		{b.Sub(three, five), nil},
		{b.Sub(five, five), nil},
		{b.Mul(five, three), nat.Of(15)},
		{b.Mul(five, nil), nil},
		{b.Mul(nil, five), nil},
		{times, three},
		{rest, nat.Of(1)},
		{b.Gcd(nat.Of(12), nat.Of(18)), nat.Of(6)},
		{b.Gcd(nil, five), five},
		{b.Gcd(five, nil), five},
		{b.Gcd(nil, nil), nil},
	} {
		if !slices.Equal(c.got, c.want) {
			t.Errorf("%d: %v, not %v", i, c.got, c.want)
		}
	}
	for _, nought := range []api.Nat{nil, {}, {0}, {0, 0}} {
		if times, rest := b.Div(ten, nought); len(times) != 0 || len(rest) != 0 || b.Over() {
			t.Errorf("by %v: %v, %v", nought, times, rest)
		}
	}
	if b.Over() {
		t.Error("over")
	}
}

// P1.2: noughts at the end of limbs change nothing, nor do they count as limbs.
func TestP12Noughts(t *testing.T) {
	with := func(x api.Nat) api.Nat { return append(slices.Clone(x), 0, 0, 0) }
	for _, x := range []api.Nat{nil, {6}, {0, 4}, {1, 2}} {
		for _, y := range []api.Nat{nil, {4}, {0, 8}, {2, 1}} {
			for _, op := range operations() {
				b, c := nat.New(2), nat.New(2)
				plain, padded := op.do(b, x, y), op.do(c, with(x), with(y))
				for i := range plain {
					if !slices.Equal(plain[i], padded[i]) || !nat.Right(padded[i]) || b.Over() != c.Over() {
						t.Errorf("%s of %v, %v: %v, not %v", op.name, x, y, padded[i], plain[i])
					}
				}
			}
		}
	}
}

// P1.2: an answer of just as many limbs as may be, and one of one more.
func TestP12BenchIsFull(t *testing.T) {
	for limbs := uint(1); limbs < 6; limbs++ {
		most, more := power(32*limbs, -1), power(32*limbs, 0)
		pair := power(32*limbs+5, 0)
		for i, c := range []struct {
			op   string
			x, y api.Nat
			fits bool
		}{
			{"Add", most, nil, true},
			{"Add", nil, most, true},
			{"Add", most, nat.Of(1), false},
			{"Add", more, nil, false},
			{"Sub", more, nat.Of(1), true},
			{"Sub", pair, power(32*limbs+4, 0), false},
			{"Sub", more, nil, false},
			{"Sub", more, pair, true},
			{"Mul", most, nat.Of(1), true},
			{"Mul", power(32*limbs-1, 0), nat.Of(2), false},
			{"Mul", power(32*limbs-1, 0), nat.Of(1), true},
			{"Mul", more, nil, true},
			{"Mul", power(32*limbs+96, 0), nil, true},
			{"Mul", nil, power(32*limbs+96, 0), true},
			{"Mul", more, nat.Of(1), false},
			{"Mul", pair, pair, false},
			{"Div", more, nat.Of(2), true},
			{"Div", more, nat.Of(1), false},
			{"Div", most, pair, true},
			{"Div", more, pair, false},
			{"Div", power(64*limbs, -1), more, true},
			{"Div", power(64*limbs, 0), more, false},
			{"Div", power(32*limbs+4, 1), power(32*limbs+4, 0), true},
			{"Div", power(32*limbs+4, 0), power(32*limbs+5, 0), false},
			{"Div", more, nil, true},
			{"Gcd", most, nil, true},
			{"Gcd", pair, nat.Of(64), true},
			{"Gcd", more, nil, false},
			{"Gcd", nil, more, false},
			{"Gcd", more, pair, false},
			{"Gcd", more, power(32*limbs, 1), true},
			{"Parse", most, most, true},
			{"Parse", nat.Of(1), more, false},
		} {
			checkFull(t, int(limbs), i, c.op, c.x, c.y, c.fits)
		}
	}
}

// checkFull tells an error, if a call's answer doesn't fit, or is over, as it ought to.
func checkFull(t *testing.T, limbs, at int, name string, x, y api.Nat, fits bool) {
	t.Helper()
	b := nat.New(limbs)
	for _, op := range operations() {
		if op.name != name {
			continue
		}
		got, want := op.do(b, x, y), reckon(name, toBig(x), toBig(y))
		if b.Over() == fits {
			t.Errorf("%d limbs, %d: %s: over: %v", limbs, at, name, b.Over())
		}
		last := len(got) - 1
		for i := range got {
			if name == "Parse" && i < last {
				continue
			}
			if !fits {
				want[i] = new(big.Int)
			}
			same(t, fmt.Sprint(limbs, at, name), got[i], want[i])
		}
	}
}

// A bench that is over answers nothing, for ever.
func TestP12OverForEver(t *testing.T) {
	for _, op := range operations() {
		b := overBench(t, 3)
		for range 3 {
			for i, x := range op.do(b, nat.Of(12), nat.Of(5)) {
				if len(x) != 0 || !b.Over() {
					t.Errorf("%s %d: %v", op.name, i, x)
				}
			}
		}
	}
	b := nat.New(2)
	if x := b.Mul(power(32, 0), power(32, 0)); len(x) != 0 || !b.Over() || len(b.Add(nat.Of(1), nat.Of(1))) != 0 {
		t.Errorf("2^32 times 2^32 for two limbs: %v", x)
	}
}

func TestP12GcdLong(t *testing.T) {
	b := nat.New(2000)
	common, x, y := power(700, 9), power(3000, 7), power(2900, -3)
	left, right := b.Mul(b.Mul(common, x), power(77, 0)), b.Mul(b.Mul(common, y), power(131, 0))
	want := reckon("Gcd", toBig(left), toBig(right))[0]
	same(t, "long", b.Gcd(left, right), want)
	same(t, "turned round", b.Gcd(right, left), want)
	same(t, "of itself", b.Gcd(left, left), toBig(left))
	same(t, "of a multiple", b.Gcd(b.Mul(left, nat.Of(3)), left), toBig(left))
	same(t, "of one limb", b.Gcd(b.Mul(left, nat.Of(35)), nat.Of(1<<20)), big.NewInt(1<<20))
}

func TestP13Text(t *testing.T) {
	for _, x := range append(samples(300), oddRows()...) {
		if got, want := nat.Text(x), toBig(x).String(); got != want {
			t.Errorf("%v: %s, not %s", x, got, want)
		}
	}
	for n := uint(1); n < 200; n++ {
		p := new(big.Int).Exp(big.NewInt(10), big.NewInt(int64(n)), nil)
		for _, more := range []int64{-1, 0, 1} {
			x := new(big.Int).Add(p, big.NewInt(more))
			if got := nat.Text(fromBig(x)); got != x.String() {
				t.Errorf("%s, not %s", got, x)
			}
		}
	}
}

func TestP13Parse(t *testing.T) {
	b := nat.New(1100)
	for _, s := range rightTexts() {
		want, _ := new(big.Int).SetString(s, 10)
		x, ok := b.Parse(s)
		if !ok {
			t.Errorf("%.30s: false", s)
		}
		same(t, s[:min(30, len(s))], x, want)
	}
	for _, s := range wrongTexts() {
		if x, ok := b.Parse(s); ok || len(x) != 0 || b.Over() {
			t.Errorf("%.30q: %d limbs, %v, over: %v", s, len(x), ok, b.Over())
		}
	}
}

// P1.3: too many limbs, and the bench is over; a text that is no number leaves it as it is.
func TestP13ParseFull(t *testing.T) {
	for _, s := range []string{"4294967296", "0004294967296", strings.Repeat("9", 10_000)} {
		b := nat.New(1)
		if x, ok := b.Parse(s); ok || len(x) != 0 || !b.Over() {
			t.Errorf("%.30s: %v, %v, over: %v", s, x, ok, b.Over())
		}
		if x, ok := b.Parse("1"); ok || len(x) != 0 {
			t.Errorf("over, and yet: %v, %v", x, ok)
		}
	}
	for _, s := range []string{strings.Repeat("9", 10_001), strings.Repeat("9", 100) + "x", strings.Repeat("0", 10_001)} {
		b := nat.New(1)
		if x, ok := b.Parse(s); ok || len(x) != 0 || b.Over() {
			t.Errorf("%.30s: %v, %v, over: %v", s, x, ok, b.Over())
		}
	}
	b := nat.New(1)
	if x, ok := b.Parse(strings.Repeat("0", 9_990) + "4294967295"); !ok || !slices.Equal(x, api.Nat{math.MaxUint32}) {
		t.Errorf("noughts ahead: %v, %v", x, ok)
	}
}
