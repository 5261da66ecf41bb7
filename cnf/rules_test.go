package cnf_test

import (
	"math"
	"math/rand/v2"
	"testing"

	"steelyard/api"
	"steelyard/cnf"
	"steelyard/script"
)

// oddInts gives numbers at the edges.
func oddInts() []int {
	return []int{math.MinInt, -2, -1, 0, 1, 2, 3, 4, 5, 21, 22, 1 << 20, 1 << 32, math.MaxInt}
}

// pick gives one of a list.
func pick[T any](r *rand.Rand, list []T) T { return list[r.IntN(len(list))] }

// oddScript gives a script of parts by chance, that seldom is right.
func oddScript(r *rand.Rand) api.Script {
	s := api.Script{Bools: make([]string, r.IntN(3)), Reals: make([]string, r.IntN(3))}
	for range r.IntN(7) {
		n := api.Node{Op: r.IntN(24) - 1}
		if r.IntN(9) == 0 {
			n.Op, n.Number = pick(r, oddInts()), pick(r, oddRatios())
		}
		if r.IntN(6) == 0 {
			n.Var = pick(r, oddInts())
		}
		for range r.IntN(4) {
			n.Kids = append(n.Kids, pick(r, oddInts()[2:7]))
			if r.IntN(20) == 0 {
				n.Kids[0] = pick(r, oddInts())
			}
		}
		s.Nodes = append(s.Nodes, n)
	}
	for range r.IntN(3) {
		s.Asserts = append(s.Asserts, pick(r, oddInts()))
	}
	return s
}

// oddSum gives a sum of parts by chance.
func oddSum(r *rand.Rand) api.Poly {
	numbers := append(oddRatios(), api.Ratio{}, value("1"), value("1"), value("-5/3"))
	p := api.Poly{Const: pick(r, numbers)}
	for range r.IntN(4) {
		p.Monos = append(p.Monos, api.Mono{Var: pick(r, oddInts()), Coef: pick(r, numbers)})
	}
	return p
}

// oddProblem gives a problem of parts by chance.
func oddProblem(r *rand.Rand) api.Problem {
	p := api.Problem{Bools: pick(r, oddInts()), Reals: pick(r, oddInts())}
	numbers := append(oddRatios(), api.Ratio{}, value("-1"), value("2"))
	for range r.IntN(3) {
		p.Rows = append(p.Rows, oddSum(r))
	}
	for range r.IntN(4) {
		p.Atoms = append(p.Atoms, api.Atom{Bool: pick(r, oddInts()), Row: pick(r, oddInts()), Var: pick(r, oddInts()), Bound: api.Delta{A: pick(r, numbers), B: pick(r, numbers)}})
	}
	for range r.IntN(3) {
		var clause []int
		for range r.IntN(3) {
			clause = append(clause, pick(r, oddInts()))
		}
		p.Clauses = append(p.Clauses, clause)
	}
	p.Lits, p.Polys = oddInts(), []api.Poly{oddSum(r)}
	return p
}

// P1: no call panics, whatever the arguments are; and what is built of a script that isn't right is ErrArg.
func TestP1NoCallPanics(t *testing.T) {
	defer func() {
		if e := recover(); e != nil {
			t.Errorf("a call panics: %v", e)
		}
	}()
	r := rand.New(rand.NewPCG(13, 5))
	right := 0
	for range 100_000 {
		s := oddScript(r)
		p, code := cnf.Build(s, pick(r, oddInts()))
		if (code == api.ErrArg) == script.Right(s) || code != api.OK && !isNothing(p) {
			t.Errorf("%v: %v", s, code)
		}
		if code == api.OK {
			right++
		}
		other := oddProblem(r)
		if cnf.Right(other) != cnf.Right(other) {
			t.Errorf("%v", other)
		}
	}
	if right < 4000 {
		t.Errorf("%d are right", right)
	}
}

// P1: problems with a part that is another one are answered.
func TestP1OddParts(t *testing.T) {
	for _, n := range oddInts() {
		for _, m := range oddInts() {
			p := good()
			p.Bools, p.Reals = n, m
			cnf.Right(p)
			p = good()
			p.Atoms[1].Row, p.Atoms[1].Var, p.Rows[0].Monos[0].Var, p.Clauses[0][0] = n, m, n, m
			if cnf.Right(p) && (n != 1 || m != 0) {
				t.Errorf("%d and %d", n, m)
			}
		}
	}
}

// P2: the same calls give the same answers, whatever goes on between them.
func TestP2SameCalls(t *testing.T) {
	s := read(t, rich, 9)
	want := show(built(t, s, 9))
	for limbs := range 12 {
		p, code := cnf.Build(s, limbs)
		again, other := cnf.Build(s, limbs)
		if code != other || show(p) != show(again) {
			t.Errorf("%v, %s, not %v, %s", other, show(again), code, show(p))
		}
		if got := show(built(t, s, 9)); got != want {
			t.Errorf("%s, not %s", got, want)
		}
	}
}

// Rule 3: a list without elements and a nil list are one.
func TestNoElements(t *testing.T) {
	none := made(false, api.Nat{}, api.Nat{})
	s := api.Script{Bools: []string{}, Reals: make([]string, 1), Nodes: []api.Node{{Op: api.OpTrue, Kids: []int{}, Number: none}, {Op: api.OpReal, Number: none}, {Op: api.OpNumber, Number: none, Kids: []int{}}, node(api.OpLess, 1, 2)}, Asserts: []int{}}
	p := built(t, s, 1)
	if show(p) != "2 1; ; 2 @0 0-1d; [1]; [1 0 0 2]; 0, 0 1@0, 0, 0" {
		t.Errorf("%s", show(p))
	}
	p.Atoms[0].Bound = api.Delta{A: none, B: none}
	rights(t, "numbers with empty lists", p, true)
}
