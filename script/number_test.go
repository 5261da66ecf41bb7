package script_test

import (
	"math"
	"math/big"
	"slices"
	"strings"
	"testing"

	"steelyard/api"
	"steelyard/script"
)

// limbsOf gives the limbs of a number.
func limbsOf(n *big.Int) api.Nat {
	var limbs api.Nat
	for rest := new(big.Int).Set(n); rest.Sign() > 0; rest.Rsh(rest, 32) {
		limbs = append(limbs, uint32(new(big.Int).And(rest, big.NewInt(math.MaxUint32)).Uint64()))
	}
	return limbs
}

// holdsNumber tells an error, if a number isn't read as it is with just so many limbs as it has, or is with fewer.
func holdsNumber(t *testing.T, text string) {
	t.Helper()
	want, ok := new(big.Rat).SetString(text)
	if !ok {
		t.Fatalf("%s is no number", short(text))
	}
	num, den := limbsOf(want.Num()), limbsOf(want.Denom())
	if want.IsInt() {
		den = nil
	}
	limbs := max(len(num), len(den))
	for _, more := range []int{0, math.MaxInt - limbs} {
		s := read(t, "(assert (< 0.0 "+text+"))", limbs+more)
		if n := s.Nodes[1]; n.Op != api.OpNumber || n.Number.Num.Neg || !slices.Equal(n.Number.Num.Mag, num) || !slices.Equal(n.Number.Den, den) {
			t.Errorf("%s: %v", short(text), n)
		}
	}
	if limbs > 1 {
		faulty(t, "(assert (< 0.0 "+text+"))", limbs-1, api.Fault{Code: api.ErrOver, At: 15})
		faulty(t, "(assert (< 0.0 "+text+"))", 1, api.Fault{Code: api.ErrOver, At: 15})
	}
}

func TestP111Numbers(t *testing.T) {
	for _, text := range []string{"0", "0.0", "1", "10", "1.5", "1.50", "0.125", "3.000", "4294967295", "4294967296", "4294967295.0", "4294967296.5", "2147483647.5", "2147483648.5", "0.0000000001", "0.00000000023283064365386962890625", "0.0000000000000000000001",
		"18446744073709551615", "18446744073709551616", "123456789012345678901234567890.1234567890", "99999999999999999999.99999999999999999999"} {
		holdsNumber(t, text)
	}
	reads(t, "(assert (= 0 0.0 0.00))", "0 0 0 (= 0 1 2) | 3")
}

// What has fewer limbs than what is written out is read.
func TestP111NumbersInLowestTerms(t *testing.T) {
	for _, text := range []string{"0.50000000000000000000000000000000000", "4294967295.000000000000000000000", "0.00000000000000000000000000000000", "2147483647.5000000000000000000000000000"} {
		holdsNumber(t, text)
	}
}

// Limbs below 1 count as 1.
func TestP111Limbs(t *testing.T) {
	for _, limbs := range []int{1, 0, -1, math.MinInt} {
		if s := read(t, "(assert (< 4294967295 0.5))", limbs); show(s) != "4294967295 1/2 (< 0 1) | 2" {
			t.Errorf("%v", s)
		}
		faulty(t, "(assert (< 1 4294967296))", limbs, api.Fault{Code: api.ErrOver, At: 13})
		faulty(t, "(assert (< 1 0.0000000001))", limbs, api.Fault{Code: api.ErrOver, At: 13})
	}
}

// Numbers of more digits than a call of the layers below takes are read, as they have no more limbs than told.
func TestP111LongNumbers(t *testing.T) {
	many := func(digits string, n int) string { return strings.Repeat(digits, n/len(digits)+1)[:n] }
	for _, n := range []int{9_000, 9_001, 10_000, 10_001, 18_001, 27_000} {
		for _, text := range []string{many("1234567890", n), "1" + many("0", n-1), many("7", 20) + "." + many("31", n-21), many("70", n/2) + "." + many("03", n-n/2-1), "0." + many("0", n-3) + "1"} {
			holdsNumber(t, text)
		}
		for _, text := range []string{"0." + many("0", n-2), "12.25" + many("0", n-5)} {
			holdsNumber(t, text)
		}
	}
	// So many have too many limbs for sure, and aren't reckoned.
	for _, text := range []string{many("9", 30_000_000), "0." + many("9", 30_000_000)} {
		faulty(t, "(assert (< 1 "+text+"))", 1000, api.Fault{Code: api.ErrOver, At: 13})
	}
	if s := read(t, "(assert (< 1 2."+many("0", 30_000_000)+"))", 1); show(s) != "1 2 (< 0 1) | 2" {
		t.Errorf("%s", short(show(s)))
	}
}

func TestP111ErrOver(t *testing.T) {
	failsAll(t, api.ErrOver, "(assert (< x #18446744073709551616))", "(assert (< x #18446744073709551616 what))", "(assert (not (+ x #18446744073709551616.0)))", "(assert #99999999999999999999)", "(assert (let ((a #99999999999999999999) (a p)) p))",
		"(define-fun f () Real #99999999999999999999)", "(define-fun f () Bool #99999999999999999999)", "(define-fun f ((a Real)) Bool true)(assert (f #99999999999999999999 x))", "(assert (< 18446744073709551615 #0.00000000000000000001))")
	failsAll(t, api.ErrWord, "(assert (< #what 99999999999999999999))", "(set-info #99999999999999999999)", "(declare-const #99999999999999999999 Real)")
	failsAll(t, api.ErrParen, "(assert (#99999999999999999999))", "#99999999999999999999")
	// What isn't a term isn't reckoned.
	if s := read(t, "(set-info :a 99999999999999999999 0.00000000000000000001)(assert (< 1 2))(exit)(assert (< 1 99999999999999999999))", 1); show(s) != "1 2 (< 0 1) | 2" {
		t.Errorf("%v", s)
	}
	// One that is too great leaves nothing behind.
	for range 2 {
		if _, f := script.Read([]byte("(assert (< 1 4294967296))"), 1); f.Code != api.ErrOver {
			t.Errorf("%v", f)
		}
		read(t, "(assert (< 1 4294967295))", 1)
	}
}
