package ratio_test

import (
	"math/big"
	"strings"
	"testing"

	"steelyard/api"
	"steelyard/nat"
	"steelyard/ratio"
)

// wrongTexts are texts that Decimal doesn't take.
func wrongTexts() []string {
	return []string{
		"", ".", "1.", ".5", "..", "1..5", "1.2.3", "1.2.", ".1.2", "-1", "+1", "-1.5", "1.-5", "1.+5", "1e5", "1.5e5", "1/2", " 1", "1 ", "1. 5", "1 .5",
		"1,5", "0x1", "1_0", "1._5", "\x00", "\xff", "٣", "1.٣", "/", ":", "1./", "1.:", "/.1", "a", "a.5", "1.a", "1.5\n",
		strings.Repeat("1", 10_001), "1." + strings.Repeat("1", 9_999), strings.Repeat("1", 9_999) + ".1", strings.Repeat("0", 10_001),
		strings.Repeat("0", 10_000) + ".", "." + strings.Repeat("0", 9_999), strings.Repeat("1", 9_999) + ".", strings.Repeat("1", 9_999) + "a", strings.Repeat("1", 20_000),
	}
}

// rightTexts are texts that Decimal takes.
func rightTexts() []string {
	return []string{
		"0", "1", "9", "00", "007", "12.50", "0.5", "007.250", "0.0", "0.000", "00.10", "3.14159", "100.00", "4294967296", "0.4294967296", "0.2", "0.8", "1.0",
		strings.Repeat("1234567890", 1000), strings.Repeat("0", 10_000), strings.Repeat("0", 9_999) + "1",
		"1." + strings.Repeat("3", 9_998), strings.Repeat("7", 9_998) + ".5", "0." + strings.Repeat("0", 9_997) + "5", "2." + strings.Repeat("0", 9_998),
		strings.Repeat("9", 5_000) + "." + strings.Repeat("6", 4_999),
	}
}

func TestP24DecimalRight(t *testing.T) {
	for _, s := range rightTexts() {
		want, ok := new(big.Rat).SetString(s)
		if !ok {
			t.Fatal(s)
		}
		b := nat.New(max(limbsOf(want), 1))
		x, ok := ratio.Decimal(b, s)
		if !ok || b.Over() {
			t.Errorf("%.40q: %v, over: %v", s, ok, b.Over())
		}
		same(t, s[:min(len(s), 40)], x, want)
	}
	if x, ok := ratio.Decimal(nat.New(1), "12.50"); !ok || ratio.Text(x) != "25/2" {
		t.Errorf("12.50: %v", x)
	}
}

func TestP24DecimalWrong(t *testing.T) {
	for _, s := range wrongTexts() {
		b := nat.New(5_000)
		if x, ok := ratio.Decimal(b, s); ok || !equal(x, api.Ratio{}) || b.Over() {
			t.Errorf("%.40q: %v, %v, over: %v", s, x, ok, b.Over())
		}
		// What is wrong ahead of being too great is no number, and leaves a small bench as it is.
		c := nat.New(1)
		if _, ok := ratio.Decimal(c, s); ok || c.Over() {
			t.Errorf("%.40q: %v, over: %v", s, ok, c.Over())
		}
	}
}

func TestP24DecimalOver(t *testing.T) {
	for _, s := range []string{"4294967296", "0.0000000001", "4294967296.5", "18446744073709551616", "1." + strings.Repeat("3", 9_998), strings.Repeat("9", 10_000)} {
		want, _ := new(big.Rat).SetString(s)
		limbs := limbsOf(want)
		b := nat.New(limbs - 1)
		if x, ok := ratio.Decimal(b, s); ok || !b.Over() || !equal(x, api.Ratio{}) {
			t.Errorf("%.40q on a bench for %d limbs: %v, %v, over: %v", s, limbs-1, x, ok, b.Over())
		}
		if x, ok := ratio.Decimal(b, "1"); ok || !equal(x, api.Ratio{}) {
			t.Errorf("1 on a bench that is over: %v, %v", x, ok)
		}
	}
	for _, s := range append(rightTexts(), wrongTexts()...) {
		b := overBench(t, 2)
		if x, ok := ratio.Decimal(b, s); ok || !b.Over() || !equal(x, api.Ratio{}) {
			t.Errorf("%.40q on a bench that is over: %v, %v", s, x, ok)
		}
	}
	// On the way these have more than one limb.
	for s, want := range map[string]string{"0.50000000000000000000": "1/2", "4294967295.000000000000000000": "4294967295", "00000000000000000000000000007": "7"} {
		b := nat.New(1)
		if x, ok := ratio.Decimal(b, s); !ok || b.Over() || ratio.Text(x) != want {
			t.Errorf("%s: %v, %v", s, x, ok)
		}
	}
}

func TestP23Texts(t *testing.T) {
	for _, c := range [][3]string{
		{"0", "0", "0.0"},
		{"3", "3", "3.0"},
		{"-3", "-3", "(- 3.0)"},
		{"10", "10", "10.0"},
		{"1/3", "1/3", "(/ 1.0 3.0)"},
		{"-1/3", "-1/3", "(- (/ 1.0 3.0))"},
		{"29/4", "29/4", "(/ 29.0 4.0)"},
		{"-100/7", "-100/7", "(- (/ 100.0 7.0))"},
		{"18446744073709551616", "18446744073709551616", "18446744073709551616.0"},
		{"-1/18446744073709551616", "-1/18446744073709551616", "(- (/ 1.0 18446744073709551616.0))"},
	} {
		x := read(t, c[0])
		if ratio.Text(x) != c[1] || ratio.Term(x) != c[2] {
			t.Errorf("%s: %s and %s, not %s and %s", c[0], ratio.Text(x), ratio.Term(x), c[1], c[2])
		}
	}
	if x := (api.Ratio{Num: api.Whole{Mag: api.Nat{5}}, Den: api.Nat{}}); ratio.Text(x) != "5" || ratio.Term(x) != "5.0" {
		t.Errorf("a Den without elements: %s, %s", ratio.Text(x), ratio.Term(x))
	}
}

func TestP23AgainstBig(t *testing.T) {
	for _, x := range samples(300) {
		r := toRat(x)
		if ratio.Text(x) != r.RatString() {
			t.Errorf("%s, not %s", ratio.Text(x), r.RatString())
		}
		want := new(big.Int).Abs(r.Num()).String() + ".0"
		if !r.IsInt() {
			want = "(/ " + want + " " + r.Denom().String() + ".0)"
		}
		if r.Sign() < 0 {
			want = "(- " + want + ")"
		}
		if ratio.Term(x) != want {
			t.Errorf("%s, not %s", ratio.Term(x), want)
		}
	}
}
