package farkas_test

import (
	"math"
	"math/big"
	"math/rand/v2"
	"strings"
	"testing"

	"steelyard/api"
	"steelyard/farkas"
	"steelyard/ratio"
)

// least tells an error, if what is left of reasons isn't that of a text.
func least(t *testing.T, p api.Problem, list, want string) {
	t.Helper()
	got := farkas.Least(p, reasons(t, list))
	if why(got) != want {
		t.Errorf("%q: %q, not %q", list, why(got), want)
	}
	for _, r := range got {
		if !ratio.Right(r.Coef) {
			t.Errorf("%q: %v isn't in its one form", list, r)
		}
	}
}

// Without those that are taken 0 times; of each literal one, where it was first, as many times as it was in all.
func TestP162Least(t *testing.T) {
	p := problem(t, 2, "1@0 1@1", "0<=1 1<=1 #0<=2 0<=5")
	for _, c := range [][2]string{
		{"", ""}, {"1@2", "1@2"}, {"0@2", ""}, {"0@2 0@3", ""}, {"1@2 1@3 1@-4", "1@2 1@3 1@-4"}, {"1@-4 1@3 1@2", "1@-4 1@3 1@2"},
		{"1@2 1@3 0@5 1@-4 1@3", "1@2 2@3 1@-4"}, {"1/2@2 1/3@2 1/6@2", "1@2"}, {"1/2@2 1@3 1/3@2 1@3 1/6@2", "1@2 2@3"}, {"1@3 1@2 1@3 1@2", "2@3 2@2"},
		{"1@2 1@-2 2@2 3@-2", "3@2 4@-2"}, {"1@2 0@2", "1@2"}, {"0@2 1@3 1@2", "1@3 1@2"}, {"1@2 0@3 0@2 1@-4 0@3", "1@2 1@-4"},
		{"18446744073709551615@2 1@3 1@2", "18446744073709551616@2 1@3"}, {"1/18446744073709551616@2 1/18446744073709551616@2", "1/9223372036854775808@2"},
	} {
		least(t, p, c[0], c[1])
	}
}

// One whose Coefs come to 0 together stays; so do those that are below 0.
func TestP162ComeTo0(t *testing.T) {
	p := problem(t, 1, "", "0<=1 0<=2 0<=3")
	for _, c := range [][2]string{
		{"1@2 -1@2", "0@2"}, {"1@2 1@3 -1@2", "0@2 1@3"}, {"1@3 -1/2@2 -1/2@4 1/2@2", "1@3 0@2 -1/2@4"}, {"1@2 -1@2 1@2", "1@2"}, {"1@2 -1@2 1@3 1@2", "1@2 1@3"}, {"-1@2 -2@2 -3@-2", "-3@2 -3@-2"},
		{"1@2 -1@-2", "1@2 -1@-2"}, {"-1/3@4 -2/3@4 1@4 1@3", "0@4 1@3"},
	} {
		least(t, p, c[0], c[1])
	}
}

// It asks neither which literals there are, nor whether the problem is right.
func TestP162AnyLiteral(t *testing.T) {
	for _, p := range []api.Problem{{}, {Bools: -1}, problem(t, 1, "", "0<=1"), {Atoms: []api.Atom{{Bool: 7}, {Bool: 7}}}} {
		least(t, p, "1@0 2@9223372036854775807 1@0 3@-9223372036854775808 0@1 1@-9223372036854775807 2@9223372036854775807 2@-9223372036854775808", "2@0 4@9223372036854775807 5@-9223372036854775808 1@-9223372036854775807")
	}
}

// Numbers may be as great as may be.
func TestP162GreatNumbers(t *testing.T) {
	great := strings.Repeat("9", 999)
	least(t, api.Problem{}, great+"@5 1/"+great+"@6 1@5", "1"+strings.Repeat("0", 999)+"@5 1/"+great+"@6")
}

// modelLeast gives what is left of reasons by the document's words.
func modelLeast(list []api.Reason) string {
	var out []api.Reason
	done := map[int]bool{}
	for _, r := range list {
		if ratio.Sign(r.Coef) == 0 || done[r.Lit] {
			continue
		}
		done[r.Lit] = true
		all := new(big.Rat)
		for _, s := range list {
			if s.Lit == r.Lit {
				all.Add(all, rat(s.Coef))
			}
		}
		out = append(out, api.Reason{Lit: r.Lit, Coef: fromRat(all)})
	}
	return why(out)
}

func TestP162ByChance(t *testing.T) {
	r := rand.New(rand.NewPCG(16, 1))
	noughts := 0
	for range 20000 {
		var list []api.Reason
		for range r.IntN(9) {
			list = append(list, api.Reason{Lit: pick(r, []int{1, 2, 3, -1, -2, -3, math.MinInt}), Coef: few(r)})
		}
		got := farkas.Least(api.Problem{}, list)
		if why(got) != modelLeast(list) {
			t.Fatalf("%q: %q, not %q", why(list), why(got), modelLeast(list))
		}
		for _, c := range got {
			if !ratio.Right(c.Coef) {
				t.Fatalf("%q: %v isn't in its one form", why(list), c)
			}
			if ratio.Sign(c.Coef) == 0 {
				noughts++
			}
		}
	}
	if noughts < 500 {
		t.Errorf("%d come to 0", noughts)
	}
}
