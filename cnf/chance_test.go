package cnf_test

import (
	"math/rand/v2"
	"testing"

	"steelyard/api"
	"steelyard/cnf"
	"steelyard/eval"
	"steelyard/linear"
	"steelyard/nat"
	"steelyard/ratio"
	"steelyard/term"
)

// someNumber gives a number in its one form, often a small one.
func someNumber(r *rand.Rand) api.Ratio {
	b := nat.New(4)
	switch r.IntN(12) {
	case 0:
		return ratio.Make(b, r.IntN(2) == 0, nat.Of(r.Uint64()), nat.Of(1+r.Uint64N(1<<r.IntN(60))))
	case 1, 2, 3:
		return ratio.Make(b, r.IntN(2) == 0, nat.Of(r.Uint64N(9)), nat.Of(1+r.Uint64N(6)))
	}
	return ratio.Of(r.Int64N(7) - 3)
}

// wanted gives the sort of kids that an operator may have, but Ite's first one.
func wanted(r *rand.Rand, op int) int {
	switch {
	case op <= api.OpImplies:
		return api.SortBool
	case op >= api.OpLess:
		return api.SortReal
	}
	return api.SortBool + r.IntN(2)
}

// many gives how many kids an operator has.
func many(r *rand.Rand, op int) int {
	switch op {
	case api.OpNot:
		return 1
	case api.OpIte:
		return 3
	case api.OpSub:
		return 1 + r.IntN(4)
	}
	return 2 + r.IntN(3)
}

// someNode gives a node over those of terms, that often is right.
func someNode(r *rand.Rand, t *term.Terms, size, bools, reals int) api.Node {
	n := api.Node{Op: api.OpTrue + r.IntN(api.OpDiv)}
	if size == 0 || r.IntN(4) == 0 {
		n.Op = []int{api.OpBool, api.OpReal, api.OpReal, api.OpNumber}[r.IntN(4)]
	}
	switch n.Op {
	case api.OpNumber:
		n.Number = someNumber(r)
	case api.OpBool:
		n.Var = r.IntN(bools)
	case api.OpReal:
		n.Var = r.IntN(reals)
	}
	if n.Op <= api.OpNumber {
		return n
	}
	sort := wanted(r, n.Op)
	for i := range many(r, n.Op) {
		want := sort
		if n.Op == api.OpIte && i == 0 {
			want = api.SortBool
		}
		kid := r.IntN(size)
		for range 12 {
			if t.Sort(kid) != want || n.Op == api.OpMul && i > 0 && !t.Ground(kid) || n.Op == api.OpDiv && i > 0 && !t.Ground(kid) {
				kid = r.IntN(size)
			}
		}
		n.Kids = append(n.Kids, kid)
	}
	if n.Op == api.OpMul {
		r.Shuffle(len(n.Kids), func(i, j int) { n.Kids[i], n.Kids[j] = n.Kids[j], n.Kids[i] })
	}
	return n
}

// someScript gives a script that is right, of so many nodes at most.
func someScript(r *rand.Rand, most int) api.Script {
	bools, reals := 1+r.IntN(3), 1+r.IntN(3)
	s := api.Script{Bools: make([]string, bools), Reals: make([]string, reals)}
	terms := term.New(bools, reals)
	size := 0
	for range 1 + r.IntN(most) {
		if at, code := terms.Add(someNode(r, terms, size, bools, reals)); code == api.OK {
			size = at + 1
			if terms.Sort(at) == api.SortBool && r.IntN(4) == 0 {
				s.Asserts = append(s.Asserts, at)
			}
		}
	}
	s.Nodes = terms.Nodes()
	r.Shuffle(len(s.Asserts), func(i, j int) { s.Asserts[i], s.Asserts[j] = s.Asserts[j], s.Asserts[i] })
	return s
}

// P13.1 and P2: what is built of scripts made by chance is what the document's words tell, each time.
func TestP131ByChance(t *testing.T) {
	r := rand.New(rand.NewPCG(13, 1))
	seen := map[api.Errno]int{}
	rows, atoms, choices := 0, 0, 0
	for range 4000 {
		s := someScript(r, 60)
		limbs := []int{1, 1, 2, 3, 40}[r.IntN(5)]
		m := modelOf(s, limbs)
		for range 2 {
			p, code := cnf.Build(s, limbs)
			seen[code]++
			if m.over {
				if code != api.ErrOver || !isNothing(p) {
					t.Fatalf("%v of %d limbs: %v", s.Nodes, limbs, code)
				}
				continue
			}
			if code != api.OK || show(p) != m.show() || !areSums(p) || !cnf.Right(p) {
				t.Fatalf("%v of %d limbs: %v\n%s, not\n%s", s, limbs, code, show(p), m.show())
			}
			rows, atoms, choices = rows+len(p.Rows), atoms+len(p.Atoms), choices+p.Reals-len(s.Reals)
		}
	}
	if seen[api.OK] < 4000 || seen[api.ErrOver] < 400 || rows < 2000 || atoms < 10_000 || choices < 500 {
		t.Errorf("%v; %d rows, %d atoms, %d choices", seen, rows, atoms, choices)
	}
}

// world is what all truths and numbers of a problem are, where the script's unknowns are told.
type world struct {
	truths []int // 1, -1; 0 of those that aren't told yet
	reals  []api.Ratio
}

// is gives what a literal is: 1, -1, or 0.
func (w *world) is(lit int) int {
	if lit < 0 {
		return -w.truths[-lit-1]
	}
	return w.truths[lit-1]
}

// sign gives 1 of what is so, else -1.
func sign(is bool) int {
	if is {
		return 1
	}
	return -1
}

// worldOf tells the script's unknowns, T, the new numbers as their nodes are, and the atoms as what they stand for is.
func worldOf(t *testing.T, s api.Script, p api.Problem, bools []bool, reals []api.Ratio, nodes []api.Value) *world {
	t.Helper()
	w := &world{truths: make([]int, p.Bools), reals: make([]api.Ratio, p.Reals)}
	for v, is := range bools {
		w.truths[v] = sign(is)
	}
	w.truths[len(bools)] = 1
	copy(w.reals, reals)
	for at, n := range s.Nodes {
		if n.Op == api.OpIte && p.Lits[at] == 0 {
			w.reals[p.Polys[at].Monos[0].Var] = nodes[at].Number
		}
	}
	for _, a := range p.Atoms {
		q := linear.Of(a.Var)
		if a.Row >= 0 {
			q = p.Rows[a.Row]
		}
		x, code := linear.Value(wide(), q, w.reals)
		if code != api.OK || w.truths[a.Bool] != 0 {
			t.Fatalf("the atom %v is told already, or of what isn't there", a)
		}
		order := ratio.Cmp(x, a.Bound.A)
		w.truths[a.Bool] = sign(order < 0 || order == 0 && ratio.Sign(a.Bound.B) == 0)
	}
	return w
}

// follow tells the truth that a clause leaves, if all its other literals are false; and whether it is true then, or not told yet.
func (w *world) follow(clause []int) bool {
	open, many := 0, 0
	for _, lit := range clause {
		switch w.is(lit) {
		case 1:
			return true
		case 0:
			open, many = lit, many+1
		}
	}
	if many == 1 {
		w.truths[max(open, -open)-1] = sign(open > 0)
	}
	return many > 0
}

// P13.3: what the clauses leave to each new truth is what its node is; and no clause but an assert's is false.
func TestP133(t *testing.T) {
	r := rand.New(rand.NewPCG(13, 3))
	truths, held := 0, 0
	for range 3000 {
		s := someScript(r, 40)
		p := built(t, s, 1000)
		for range 4 {
			var bools []bool
			var reals []api.Ratio
			for range s.Bools {
				bools = append(bools, r.IntN(2) == 0)
			}
			for range s.Reals {
				reals = append(reals, someNumber(r))
			}
			is, all := holds(t, s, p, bools, reals)
			truths += all
			if is {
				held++
			}
		}
	}
	if truths < 10_000 || held < 500 {
		t.Errorf("%d truths, %d scripts are true", truths, held)
	}
}

// holds tells an error, if the clauses of a problem aren't as told, where the script's unknowns are so; whether the script is true; and how many new truths there are.
func holds(t *testing.T, s api.Script, p api.Problem, bools []bool, reals []api.Ratio) (bool, int) {
	t.Helper()
	nodes, code := eval.All(wide(), s.Nodes, bools, reals)
	if code != api.OK {
		t.Fatal(code)
	}
	w := worldOf(t, s, p, bools, reals, nodes)
	first := len(p.Clauses) - len(s.Asserts)
	for i, clause := range p.Clauses[:first] {
		if !w.follow(clause) {
			t.Fatalf("%v: the clause %d, %v, is false", s.Nodes, i, clause)
		}
	}
	for v, is := range w.truths {
		if is == 0 && v > len(bools) {
			t.Fatalf("%v: the truth %d isn't told", s.Nodes, v)
		}
	}
	for _, clause := range p.Clauses[:first] {
		if !w.follow(clause) {
			t.Fatalf("%v: %v is false", s.Nodes, clause)
		}
	}
	for at, v := range nodes {
		if lit := p.Lits[at]; lit != 0 && w.is(lit) != sign(v.Truth) {
			t.Fatalf("%v: the literal of the node %d isn't as it is", s.Nodes, at)
		} else if lit == 0 {
			x, code := linear.Value(wide(), p.Polys[at], w.reals)
			if code != api.OK || ratio.Cmp(x, v.Number) != 0 {
				t.Fatalf("%v: the sum of the node %d isn't what it is", s.Nodes, at)
			}
		}
	}
	is := true
	for _, clause := range p.Clauses[first:] {
		is = is && len(clause) == 1 && w.is(clause[0]) == 1
	}
	if want, code := eval.True(wide(), s, bools, reals); code != api.OK || is != want {
		t.Fatalf("%v: the asserts' clauses are %v, not %v", s, is, want)
	}
	return is, p.Bools - len(bools) - 1 - len(p.Atoms)
}
