package simplex_test

import (
	"math/big"
	"math/rand/v2"
	"slices"
	"strconv"
	"strings"
	"testing"

	"steelyard/api"
	"steelyard/delta"
	"steelyard/nat"
	"steelyard/ratio"
	"steelyard/tableau"
)

// number gives the ratio of a text such as -3/4.
func number(t *testing.T, s string) api.Ratio {
	t.Helper()
	digits, neg := strings.CutPrefix(s, "-")
	first, second, through := strings.Cut(digits, "/")
	b := nat.New(1000)
	x, ok := ratio.Decimal(b, first)
	if through {
		den, right := ratio.Decimal(b, second)
		x, ok = ratio.Div(b, x, den), ok && right
	}
	if neg {
		x = ratio.Neg(x)
	}
	if !ok || ratio.Text(x) != s {
		t.Fatalf("%q is no ratio in its one form", s)
	}
	return x
}

// value gives the number of a text such as 3/4-1d.
func value(t *testing.T, s string) api.Delta {
	t.Helper()
	first, more := strings.CutSuffix(s, "d")
	if !more {
		return delta.Of(number(t, s))
	}
	sign := strings.LastIndexAny(first, "+-")
	return api.Delta{A: number(t, first[:sign]), B: number(t, strings.TrimPrefix(first[sign:], "+"))}
}

// edge gives the bound of a text such as -4@3/4-1d, a literal and a number; - is none.
func edge(t *testing.T, s string) api.Edge {
	t.Helper()
	if s == "-" {
		return api.Edge{}
	}
	first, at, _ := strings.Cut(s, "@")
	return api.Edge{Lit: whole(t, first), At: value(t, at)}
}

// whole gives the integer of a text.
func whole(t *testing.T, s string) int {
	t.Helper()
	n, err := strconv.Atoi(s)
	if err != nil {
		t.Fatalf("%q is no integer", s)
	}
	return n
}

// sum gives the sum of a text such as "2@0 -1/2@5": twice the unknown 0, less half the unknown 5.
func sum(t *testing.T, s string) api.Poly {
	t.Helper()
	p := api.Poly{}
	for mono := range strings.FieldsSeq(s) {
		coef, name, _ := strings.Cut(mono, "@")
		p.Monos = append(p.Monos, api.Mono{Var: whole(t, name), Coef: number(t, coef)})
	}
	return p
}

// read gives the tableau of a text such as "2: 1@0 2@1; 3: 1@0 -1@1 | 0 5 10 -5 | - 3@1 - - | - - 4@9+1d -": rows, values, lower and upper bounds; those may be left out, if there are none.
func read(t *testing.T, s string) api.Tableau {
	t.Helper()
	var x api.Tableau
	parts := strings.Split(s, " | ")
	for line := range strings.SplitSeq(parts[0], "; ") {
		if basic, row, ok := strings.Cut(line, ":"); ok {
			x.Basic, x.Rows = append(x.Basic, whole(t, basic)), append(x.Rows, sum(t, row))
		}
	}
	for word := range strings.FieldsSeq(parts[1]) {
		x.Values = append(x.Values, value(t, word))
	}
	if len(parts) == 2 {
		x.Lower, x.Upper = make([]api.Edge, len(x.Values)), make([]api.Edge, len(x.Values))
		return x
	}
	for i, list := range []*[]api.Edge{&x.Lower, &x.Upper} {
		for word := range strings.FieldsSeq(parts[2+i]) {
			*list = append(*list, edge(t, word))
		}
	}
	return x
}

// sumText gives the text of a sum that sum gives it of, with its number ahead, if that isn't 0.
func sumText(p api.Poly) string {
	var words []string
	if ratio.Sign(p.Const) != 0 {
		words = append(words, ratio.Text(p.Const))
	}
	for _, m := range p.Monos {
		words = append(words, ratio.Text(m.Coef)+"@"+strconv.Itoa(m.Var))
	}
	return strings.Join(words, " ")
}

// edgeText gives the text of a bound that edge gives it of.
func edgeText(e api.Edge) string {
	at := delta.Text(e.At)
	if e.Lit == 0 && at == "0" {
		return "-"
	}
	return strconv.Itoa(e.Lit) + "@" + at
}

// texts gives the texts of a list, with a separator between each two.
func texts[T any](list []T, between string, text func(T) string) string {
	var words []string
	for _, x := range list {
		words = append(words, text(x))
	}
	return strings.Join(words, between)
}

// show gives the text of a tableau that read gives it of, with all bounds.
func show(x api.Tableau) string {
	var lines []string
	for i, p := range x.Rows {
		lines = append(lines, strings.TrimSuffix(strconv.Itoa(x.Basic[i])+": "+sumText(p), " "))
	}
	return strings.Join([]string{strings.Join(lines, "; "), texts(x.Values, " ", delta.Text), texts(x.Lower, " ", edgeText), texts(x.Upper, " ", edgeText)}, " | ")
}

// is tells an error, if a tableau isn't that of a text, each number in its one form.
func is(t *testing.T, what string, x api.Tableau, want string) {
	t.Helper()
	if !tableau.Right(x) || show(x) != show(read(t, want)) {
		t.Errorf("%s: %s, not %s", what, show(x), want)
	}
}

// copyOf gives a tableau in memory of its own.
func copyOf(x api.Tableau) api.Tableau {
	x.Basic, x.Values, x.Lower, x.Upper = slices.Clone(x.Basic), slices.Clone(x.Values), slices.Clone(x.Lower), slices.Clone(x.Upper)
	x.Rows = slices.Clone(x.Rows)
	for i, p := range x.Rows {
		x.Rows[i].Const, x.Rows[i].Monos = copyOfRatio(p.Const), slices.Clone(p.Monos)
		for j, m := range p.Monos {
			x.Rows[i].Monos[j].Coef = copyOfRatio(m.Coef)
		}
	}
	for i, y := range x.Values {
		x.Values[i] = copyOfDelta(y)
	}
	for _, list := range [][]api.Edge{x.Lower, x.Upper} {
		for i, e := range list {
			list[i].At = copyOfDelta(e.At)
		}
	}
	return x
}

// copyOfDelta gives a number in memory of its own.
func copyOfDelta(x api.Delta) api.Delta {
	return api.Delta{A: copyOfRatio(x.A), B: copyOfRatio(x.B)}
}

// copyOfRatio gives a ratio in memory of its own.
func copyOfRatio(x api.Ratio) api.Ratio {
	x.Num.Mag, x.Den = slices.Clone(x.Num.Mag), slices.Clone(x.Den)
	return x
}

// rat gives the rational number that a ratio is.
func rat(x api.Ratio) *big.Rat {
	r, ok := new(big.Rat).SetString(ratio.Text(x))
	if !ok {
		panic("no ratio: " + ratio.Text(x))
	}
	return r
}

// fromRat gives a rational number in its one form.
func fromRat(r *big.Rat) api.Ratio {
	b := nat.New(1000)
	num, _ := b.Parse(new(big.Int).Abs(r.Num()).String())
	den, _ := b.Parse(r.Denom().String())
	return ratio.Make(b, r.Sign() < 0, num, den)
}

// overBench gives a bench for so many limbs that is over.
func overBench(limbs int) *nat.Bench {
	b := nat.New(limbs)
	b.Add(append(make(api.Nat, b.Limbs()), 1), nil)
	if !b.Over() {
		panic("a bench isn't over")
	}
	return b
}

// oddRatios gives ratios that aren't in their one form.
func oddRatios() []api.Ratio {
	rows := []api.Nat{nil, {}, {0}, {0, 0}, {1}, {1, 0}, {6}, {6, 0, 0}, {0, 4}, {9, 9, 9}}
	var list []api.Ratio
	for _, num := range rows {
		for _, den := range rows {
			for _, neg := range []bool{false, true} {
				if x := (api.Ratio{Num: api.Whole{Neg: neg, Mag: num}, Den: den}); !ratio.Right(x) {
					list = append(list, x)
				}
			}
		}
	}
	return list
}

// someNumber gives a ratio that is often 0, or small; now and then one of up to so many limbs.
func someNumber(r *rand.Rand, limbs int) api.Ratio {
	if r.IntN(6) > 0 {
		return ratio.Div(nat.New(2), ratio.Of(r.Int64N(9)-4), ratio.Of(1+r.Int64N(3)))
	}
	part := func() api.Nat {
		x := make(api.Nat, r.IntN(limbs+1))
		for i := range x {
			x[i] = uint32(r.Uint64()>>r.IntN(32)) | 1
		}
		return x
	}
	den := part()
	if len(den) == 0 || r.IntN(2) == 0 {
		den = api.Nat{1}
	}
	return ratio.Make(nat.New(limbs), r.IntN(2) == 0, part(), den)
}

// someValue gives a number with a delta, now and then.
func someValue(r *rand.Rand, limbs int) api.Delta {
	x := api.Delta{A: someNumber(r, limbs)}
	if r.IntN(2) == 0 {
		x.B = someNumber(r, limbs)
	}
	return x
}

// someEdge gives a bound, or none.
func someEdge(r *rand.Rand, limbs int) api.Edge {
	if r.IntN(2) == 0 {
		return api.Edge{}
	}
	return api.Edge{Lit: 1 + r.IntN(50) - 60*r.IntN(2), At: someValue(r, limbs)}
}

// someTableau gives a right tableau of up to so many unknowns, any of which may be basic.
func someTableau(r *rand.Rand, most, limbs int) api.Tableau {
	n := 1 + r.IntN(most)
	names := r.Perm(n)
	basic := r.IntN(n + 1)
	others := slices.Sorted(slices.Values(names[basic:]))
	x := api.Tableau{Basic: names[:basic], Values: make([]api.Delta, n), Lower: make([]api.Edge, n), Upper: make([]api.Edge, n)}
	for v := range n {
		x.Values[v], x.Lower[v], x.Upper[v] = someValue(r, limbs), someEdge(r, limbs), someEdge(r, limbs)
	}
	for range basic {
		p := api.Poly{}
		for _, v := range others {
			if k := someNumber(r, limbs); ratio.Sign(k) != 0 {
				p.Monos = append(p.Monos, api.Mono{Var: v, Coef: k})
			}
		}
		x.Rows = append(x.Rows, p)
	}
	settle(x)
	return x
}

// settle lets each basic unknown be what its row is.
func settle(x api.Tableau) {
	for i, p := range x.Rows {
		first, second := new(big.Rat), new(big.Rat)
		for _, m := range p.Monos {
			first.Add(first, new(big.Rat).Mul(rat(m.Coef), rat(x.Values[m.Var].A)))
			second.Add(second, new(big.Rat).Mul(rat(m.Coef), rat(x.Values[m.Var].B)))
		}
		x.Values[x.Basic[i]] = api.Delta{A: fromRat(first), B: fromRat(second)}
	}
}

// why gives the text of reasons: of each how many times, and its literal, such as "1@4 2/3@-7".
func why(list []api.Reason) string {
	return texts(list, " ", func(r api.Reason) string { return ratio.Text(r.Coef) + "@" + strconv.Itoa(r.Lit) })
}
