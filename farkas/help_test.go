package farkas_test

import (
	"math/big"
	"math/rand/v2"
	"slices"
	"strconv"
	"strings"
	"testing"

	"steelyard/api"
	"steelyard/cnf"
	"steelyard/delta"
	"steelyard/nat"
	"steelyard/ratio"
)

// number gives the ratio of a text such as -3/4.
func number(t *testing.T, s string) api.Ratio {
	t.Helper()
	digits, neg := strings.CutPrefix(s, "-")
	first, second, through := strings.Cut(digits, "/")
	b := nat.New(1000)
	x, ok := ratio.Decimal(b, first)
	if through {
		den, right := ratio.Decimal(b, second)
		x, ok = ratio.Div(b, x, den), ok && right
	}
	if neg {
		x = ratio.Neg(x)
	}
	if !ok || ratio.Text(x) != s {
		t.Fatalf("%q is no ratio in its one form", s)
	}
	return x
}

// value gives the number of a text such as 3/4-1d.
func value(t *testing.T, s string) api.Delta {
	t.Helper()
	first, more := strings.CutSuffix(s, "d")
	if !more {
		return delta.Of(number(t, s))
	}
	sign := strings.LastIndexAny(first, "+-")
	return api.Delta{A: number(t, first[:sign]), B: number(t, strings.TrimPrefix(first[sign:], "+"))}
}

// whole gives the integer of a text.
func whole(t *testing.T, s string) int {
	t.Helper()
	n, err := strconv.Atoi(s)
	if err != nil {
		t.Fatalf("%q is no integer", s)
	}
	return n
}

// sum gives the sum of a text such as "2@0 -1/2@5": twice the unknown 0, less half the unknown 5.
func sum(t *testing.T, s string) api.Poly {
	t.Helper()
	p := api.Poly{}
	for mono := range strings.FieldsSeq(s) {
		coef, name, _ := strings.Cut(mono, "@")
		p.Monos = append(p.Monos, api.Mono{Var: whole(t, name), Coef: number(t, coef)})
	}
	return p
}

// problem gives a problem of so many numbers, of rows as sum tells them, and of atoms such as "1<=3/4-1d", or "#2<=5" of the row 2; the truths of these have the numbers from 1 on, rising, so the first one's literal is 2.
func problem(t *testing.T, reals int, rows, atoms string) api.Problem {
	t.Helper()
	p := api.Problem{Bools: 1, Reals: reals}
	for s := range strings.SplitSeq(rows, "; ") {
		if s != "" {
			p.Rows = append(p.Rows, sum(t, s))
		}
	}
	for s := range strings.FieldsSeq(atoms) {
		of, bound, _ := strings.Cut(s, "<=")
		a := api.Atom{Bool: p.Bools, Row: -1, Bound: value(t, bound)}
		if row, ok := strings.CutPrefix(of, "#"); ok {
			a.Row = whole(t, row)
		} else {
			a.Var = whole(t, of)
		}
		p.Atoms, p.Bools = append(p.Atoms, a), p.Bools+1
	}
	if !cnf.Right(p) {
		t.Fatalf("%s, %s: it isn't right", rows, atoms)
	}
	return p
}

// reasons gives those of a text such as "1@4 2/3@-7": of each how many times, and its literal.
func reasons(t *testing.T, s string) []api.Reason {
	t.Helper()
	var list []api.Reason
	for word := range strings.FieldsSeq(s) {
		coef, lit, _ := strings.Cut(word, "@")
		list = append(list, api.Reason{Lit: whole(t, lit), Coef: number(t, coef)})
	}
	return list
}

// why gives the text of reasons that reasons gives them of.
func why(list []api.Reason) string {
	var words []string
	for _, r := range list {
		words = append(words, ratio.Text(r.Coef)+"@"+strconv.Itoa(r.Lit))
	}
	return strings.Join(words, " ")
}

// copyOf gives a problem's parts that matter in memory of their own.
func copyOf(p api.Problem) api.Problem {
	p.Rows, p.Atoms, p.Clauses = slices.Clone(p.Rows), slices.Clone(p.Atoms), slices.Clone(p.Clauses)
	for i, q := range p.Rows {
		p.Rows[i].Monos = slices.Clone(q.Monos)
		for j, m := range q.Monos {
			p.Rows[i].Monos[j].Coef = copyOfRatio(m.Coef)
		}
	}
	for i, a := range p.Atoms {
		p.Atoms[i].Bound = api.Delta{A: copyOfRatio(a.Bound.A), B: copyOfRatio(a.Bound.B)}
	}
	for i, c := range p.Clauses {
		p.Clauses[i] = slices.Clone(c)
	}
	return p
}

// copyOfReasons gives reasons in memory of their own.
func copyOfReasons(list []api.Reason) []api.Reason {
	list = slices.Clone(list)
	for i, r := range list {
		list[i].Coef = copyOfRatio(r.Coef)
	}
	return list
}

// copyOfRatio gives a ratio in memory of its own.
func copyOfRatio(x api.Ratio) api.Ratio {
	x.Num.Mag, x.Den = slices.Clone(x.Num.Mag), slices.Clone(x.Den)
	return x
}

// rat gives the rational number that a ratio is.
func rat(x api.Ratio) *big.Rat {
	r, ok := new(big.Rat).SetString(ratio.Text(x))
	if !ok {
		panic("no ratio: " + ratio.Text(x))
	}
	return r
}

// fromRat gives a rational number in its one form.
func fromRat(r *big.Rat) api.Ratio {
	b := nat.New(1000)
	num, _ := b.Parse(new(big.Int).Abs(r.Num()).String())
	den, _ := b.Parse(r.Denom().String())
	return ratio.Make(b, r.Sign() < 0, num, den)
}

// oddRatios gives ratios that aren't in their one form.
func oddRatios() []api.Ratio {
	rows := []api.Nat{nil, {}, {0}, {0, 0}, {1}, {1, 0}, {6}, {6, 0, 0}, {0, 4}, {9, 9, 9}}
	var list []api.Ratio
	for _, num := range rows {
		for _, den := range rows {
			for _, neg := range []bool{false, true} {
				if x := (api.Ratio{Num: api.Whole{Neg: neg, Mag: num}, Den: den}); !ratio.Right(x) {
					list = append(list, x)
				}
			}
		}
	}
	return list
}

// few gives a small ratio, as often below 0 as above it.
func few(r *rand.Rand) api.Ratio {
	return ratio.Div(nat.New(2), ratio.Of(r.Int64N(7)-3), ratio.Of(1+r.Int64N(2)))
}

// pick gives one of a list.
func pick[T any](r *rand.Rand, list []T) T { return list[r.IntN(len(list))] }
