package cnf_test

import (
	"fmt"
	"math/big"
	"slices"
	"strconv"
	"strings"
	"testing"

	"steelyard/api"
	"steelyard/cnf"
	"steelyard/delta"
	"steelyard/linear"
	"steelyard/nat"
	"steelyard/ratio"
	"steelyard/script"
)

// head declares the unknowns of most texts: the literals 1 and 2, the numbers 0, 1 and 2; T is the literal 3.
const head = "(declare-const p Bool)(declare-const q Bool)(declare-const x Real)(declare-const y Real)(declare-const z Real)"

// read gives the script of a text behind the head.
func read(t *testing.T, text string, limbs int) api.Script {
	t.Helper()
	s, fault := script.Read([]byte(head+text), limbs)
	if fault.Code != api.OK {
		t.Fatalf("%s: %v", text, fault)
	}
	return s
}

// built gives the problem of a script.
func built(t *testing.T, s api.Script, limbs int) api.Problem {
	t.Helper()
	p, code := cnf.Build(s, limbs)
	if code != api.OK || !cnf.Right(p) {
		t.Fatalf("%d nodes, %d limbs: %v", len(s.Nodes), limbs, code)
	}
	return p
}

// builds tells an error, if the problem of a text isn't this one: its clauses (but T's), its rows and its atoms.
func builds(t *testing.T, text, clauses, rows, atoms string) api.Problem {
	t.Helper()
	p := built(t, read(t, text, 8), 8)
	if got := clausesText(p.Clauses); got != "[3]"+clauses {
		t.Errorf("%s: the clauses %s, not [3]%s", text, got, clauses)
	}
	if got := rowsText(p.Rows); got != rows {
		t.Errorf("%s: the rows %q, not %q", text, got, rows)
	}
	if got := atomsText(p.Atoms); got != atoms {
		t.Errorf("%s: the atoms %q, not %q", text, got, atoms)
	}
	return p
}

// fails tells an error, if a script isn't answered this error.
func fails(t *testing.T, s api.Script, limbs int, want api.Errno) {
	t.Helper()
	if p, code := cnf.Build(s, limbs); code != want || !isNothing(p) {
		t.Errorf("%d nodes, %d limbs: %v, not %v; %s", len(s.Nodes), limbs, code, want, show(p))
	}
}

// isNothing tells whether a problem is the zero value.
func isNothing(p api.Problem) bool {
	return p.Bools == 0 && p.Reals == 0 && len(p.Rows)+len(p.Atoms)+len(p.Clauses)+len(p.Lits)+len(p.Polys) == 0
}

// clausesText gives clauses as a text, such as [3][-4 1].
func clausesText(clauses [][]int) string {
	var out strings.Builder
	for _, c := range clauses {
		out.WriteString(fmt.Sprint(c))
	}
	return out.String()
}

// sumText gives a sum as a text, such as 3 2@0 -1/2@5: 3, twice the unknown 0, less half the unknown 5.
func sumText(p api.Poly) string {
	out := ratio.Text(p.Const)
	for _, m := range p.Monos {
		out += " " + ratio.Text(m.Coef) + "@" + strconv.Itoa(m.Var)
	}
	return out
}

// rowsText gives sums as a text.
func rowsText(rows []api.Poly) string {
	var list []string
	for _, q := range rows {
		list = append(list, sumText(q))
	}
	return strings.Join(list, ", ")
}

// atomsText gives atoms as a text, such as 4 @0 1-1d, 5 row0 2: the truth with the literal 4 is that the unknown 0 is at most 1 - delta, and so on.
func atomsText(atoms []api.Atom) string {
	var list []string
	for _, a := range atoms {
		what := "row" + strconv.Itoa(a.Row)
		if a.Row == -1 {
			what = "@" + strconv.Itoa(a.Var)
		}
		list = append(list, strconv.Itoa(a.Bool+1)+" "+what+" "+delta.Text(a.Bound))
	}
	return strings.Join(list, ", ")
}

// show gives all of a problem as a text.
func show(p api.Problem) string {
	return fmt.Sprintf("%d %d; %s; %s; %s; %v; %s", p.Bools, p.Reals, rowsText(p.Rows), atomsText(p.Atoms), clausesText(p.Clauses), p.Lits, rowsText(p.Polys))
}

// areSums tells whether all sums of a problem are right, each number in its one form.
func areSums(p api.Problem) bool {
	for _, q := range slices.Concat(p.Rows, p.Polys) {
		if !linear.Right(q) {
			return false
		}
	}
	return true
}

// node gives a node of an operator over others.
func node(op int, kids ...int) api.Node { return api.Node{Op: op, Kids: kids} }

// unknown gives a node that is an unknown.
func unknown(op, v int) api.Node { return api.Node{Op: op, Var: v} }

// number gives a node that is a number.
func number(x api.Ratio) api.Node { return api.Node{Op: api.OpNumber, Number: x} }

// made gives a ratio of its parts, as they are.
func made(neg bool, num, den api.Nat) api.Ratio {
	return api.Ratio{Num: api.Whole{Neg: neg, Mag: num}, Den: den}
}

// value gives the ratio of a text such as -3/4.
func value(s string) api.Ratio {
	x, ok := new(big.Rat).SetString(s)
	if !ok {
		panic(s + " is no number")
	}
	return fromRat(x)
}

// power gives 2^n, plus more.
func power(n uint, more int64) api.Ratio {
	p := new(big.Int).Lsh(big.NewInt(1), n)
	return fromRat(new(big.Rat).SetInt(p.Add(p, big.NewInt(more))))
}

// fromInt gives the limbs of how great a number is.
func fromInt(n *big.Int) api.Nat {
	var x api.Nat
	for left := new(big.Int).Abs(n); left.Sign() > 0; left.Rsh(left, 32) {
		x = append(x, uint32(left.Uint64()))
	}
	return x
}

// fromRat gives a rational number in its one form.
func fromRat(x *big.Rat) api.Ratio {
	if x.IsInt() {
		return made(x.Sign() < 0, fromInt(x.Num()), nil)
	}
	return made(x.Sign() < 0, fromInt(x.Num()), fromInt(x.Denom()))
}

// toRat gives the rational number that a ratio is.
func toRat(x api.Ratio) *big.Rat {
	r, ok := new(big.Rat).SetString(ratio.Text(x))
	if !ok {
		panic("no ratio: " + ratio.Text(x))
	}
	return r
}

// oddRatios gives ratios that aren't in their one form.
func oddRatios() []api.Ratio {
	return []api.Ratio{
		made(true, nil, nil), made(false, nil, api.Nat{2}), made(false, api.Nat{1}, api.Nat{1}), made(false, api.Nat{1}, api.Nat{0}), made(false, api.Nat{0}, nil),
		made(false, api.Nat{1, 0}, nil), made(true, api.Nat{4}, api.Nat{6}), made(false, api.Nat{1}, api.Nat{2, 0}),
	}
}

// isOver tells whether a number has too many limbs for a bench.
func isOver(x *big.Rat, limbs int) bool {
	most := 32 * max(limbs, 1)
	return x.Num().BitLen() > most || !x.IsInt() && x.Denom().BitLen() > most
}

// wide gives a bench on which all numbers of a test fit.
func wide() *nat.Bench { return nat.New(1000) }
