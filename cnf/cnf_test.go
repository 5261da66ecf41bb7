package cnf_test

import (
	"math"
	"testing"

	"steelyard/api"
	"steelyard/cnf"
	"steelyard/linear"
	"steelyard/ratio"
)

func TestP131Example(t *testing.T) {
	builds(t, "(assert (< x 1))", "[4]", "", "4 @0 1-1d")
}

func TestP131Nothing(t *testing.T) {
	p, code := cnf.Build(api.Script{}, 1)
	if code != api.OK || show(p) != "1 0; ; ; [1]; []; " {
		t.Errorf("%v, %s", code, show(p))
	}
	if p := builds(t, "", "", "", ""); p.Bools != 3 || p.Reals != 3 || len(p.Lits)+len(p.Polys) != 0 {
		t.Errorf("%s", show(p))
	}
	// What is asked doesn't matter.
	builds(t, "(check-sat)(get-model)", "", "", "")
}

func TestP131Truths(t *testing.T) {
	for text, clauses := range map[string]string{
		"(assert true)(assert false)":      "[3][-3]",
		"(assert p)(assert q)(assert p)":   "[1][2][1]",
		"(assert (not q))":                 "[-2]",
		"(assert (not (not (not p))))":     "[-1]",
		"(assert (and p q))":               "[-4 1][-4 2][4 -1 -2][4]",
		"(assert (and p (not q) true p))":  "[-4 1][-4 -2][-4 3][-4 1][4 -1 2 -3 -1][4]",
		"(assert (or p q))":                "[4 -1][4 -2][-4 1 2][4]",
		"(assert (or p (not q) false p))":  "[4 -1][4 2][4 3][4 -1][-4 1 -2 -3 1][4]",
		"(assert (=> p q))":                "[4 1][4 -2][-4 -1 2][4]",
		"(assert (=> p (not q) p q))":      "[4 1][4 -2][4 1][4 -2][-4 -1 2 -1 2][4]",
		"(assert (xor p q))":               "[-4 1 2][-4 -1 -2][4 -1 2][4 1 -2][4]",
		"(assert (xor p (not q) true))":    "[-4 1 -2][-4 -1 2][4 -1 -2][4 1 2][-5 4 3][-5 -4 -3][5 -4 3][5 4 -3][5]",
		"(assert (ite p q true))":          "[-1 -2 4][-1 2 -4][1 -3 4][1 3 -4][4]",
		"(assert (ite (not p) false q))":   "[1 3 4][1 -3 -4][-1 -2 4][-1 2 -4][4]",
		"(assert (= p q))":                 "[-4 1 2][-4 -1 -2][4 -1 2][4 1 -2][-4]",
		"(assert (= p q true))":            "[-4 1 2][-4 -1 -2][4 -1 2][4 1 -2][-5 2 3][-5 -2 -3][5 -2 3][5 2 -3][-6 -4][-6 -5][6 4 5][6]",
		"(assert (distinct p q))":          "[-4 1 2][-4 -1 -2][4 -1 2][4 1 -2][4]",
		"(assert (distinct p q (not q)))":  "[-4 1 2][-4 -1 -2][4 -1 2][4 1 -2][-5 1 -2][-5 -1 2][5 -1 -2][5 1 2][-6 2 -2][-6 -2 2][6 -2 -2][6 2 2][-7 4][-7 5][-7 6][7 -4 -5 -6][7]",
		"(assert (let ((a (and p q))) a))": "[-4 1][-4 2][4 -1 -2][4]",
	} {
		if p := builds(t, text, clauses, "", ""); p.Reals != 3 {
			t.Errorf("%s: %d numbers", text, p.Reals)
		}
	}
}

func TestP131Orders(t *testing.T) {
	for _, c := range []struct{ text, clauses, rows, atoms string }{
		{"(<= x 1)", "[4]", "", "4 @0 1"},
		{"(< x 1)", "[4]", "", "4 @0 1-1d"},
		{"(> x 1)", "[-4]", "", "4 @0 1"},
		{"(>= x 1)", "[-4]", "", "4 @0 1-1d"},
		{"(<= 1 x)", "[-4]", "", "4 @0 1-1d"},
		{"(< 1 x)", "[-4]", "", "4 @0 1"},
		{"(> 1 x)", "[4]", "", "4 @0 1-1d"},
		{"(>= 1 x)", "[4]", "", "4 @0 1"},
		{"(<= (* 2 y) 3)", "[4]", "", "4 @1 3/2"},
		{"(< (* (- 2) z) 3)", "[-4]", "", "4 @2 -3/2"},
		{"(<= (/ x (- 2)) (- 3))", "[-4]", "", "4 @0 6-1d"},
		{"(< (+ (* 2 x) (* 4 y)) 6)", "[4]", "0 1@0 2@1", "4 row0 3-1d"},
		{"(<= (- (* 4 y) (* 2 x) 6) z)", "[-4]", "0 1@0 -2@1 1/2@2", "4 row0 -3-1d"},
		{"(> x y)", "[-4]", "0 1@0 -1@1", "4 row0 0"},
		{"(<= x x)", "[3]", "", ""},
		{"(< (+ x y) (+ y x))", "[-3]", "", ""},
		{"(< x (+ y x))", "[-4]", "", "4 @1 0"},
		// Of more than two: of each two side by side.
		{"(< x y z)", "[-6 4][-6 5][6 -4 -5][6]", "0 1@0 -1@1, 0 1@1 -1@2", "4 row0 0-1d, 5 row1 0-1d"},
		{"(<= x y x)", "[-6 4][-6 -5][6 -4 5][6]", "0 1@0 -1@1", "4 row0 0, 5 row0 0-1d"},
		{"(> x 2 y)", "[-6 -4][-6 5][6 4 -5][6]", "", "4 @0 2, 5 @1 2-1d"},
		{"(>= z y x)", "[-6 4][-6 5][6 -4 -5][6]", "0 1@1 -1@2, 0 1@0 -1@1", "4 row0 0, 5 row1 0"},
		{"(< 1 x 2 3)", "[-6 -4][-6 5][-6 3][6 4 -5 -3][6]", "", "4 @0 1, 5 @0 2-1d"},
	} {
		builds(t, "(assert "+c.text+")", c.clauses, c.rows, c.atoms)
	}
}

// Sums without unknowns are T, or not.
func TestP131Known(t *testing.T) {
	for text, literal := range map[string]string{
		"(< 1 2)": "3", "(< 1 1)": "-3", "(< 2 1)": "-3", "(<= 1 2)": "3", "(<= 1 1)": "3", "(<= 2 1)": "-3",
		"(> 1 2)": "-3", "(> 1 1)": "-3", "(> 2 1)": "3", "(>= 1 2)": "-3", "(>= 1 1)": "3", "(>= 2 1)": "3",
		"(< (- x x) 1)": "3", "(< (* 0 x) 0)": "-3", "(<= (/ x 0) 0)": "3", "(not (< 1 2))": "-3",
	} {
		builds(t, "(assert "+text+")", "["+literal+"]", "", "")
	}
	builds(t, "(assert (= 1 1))", "[-4 3][-4 3][4 -3 -3][4]", "", "")
	builds(t, "(assert (= 1 2))", "[-4 3][-4 -3][4 -3 3][4]", "", "")
	builds(t, "(assert (distinct 2 1))", "[-4 -3][-4 3][4 3 -3][-4]", "", "")
	builds(t, "(assert (< 1 2 2))", "[-4 3][-4 -3][4 -3 3][4]", "", "")
}

func TestP131Same(t *testing.T) {
	builds(t, "(assert (= x y))", "[-6 4][-6 -5][6 -4 5][6]", "0 1@0 -1@1", "4 row0 0, 5 row0 0-1d")
	builds(t, "(assert (= 5 x))", "[-6 -4][-6 5][6 4 -5][6]", "", "4 @0 5-1d, 5 @0 5")
	builds(t, "(assert (= x 1 y))", "[-6 4][-6 -5][6 -4 5][-9 -7][-9 8][9 7 -8][-10 6][-10 9][10 -6 -9][10]", "", "4 @0 1, 5 @0 1-1d, 7 @1 1-1d, 8 @1 1")
	builds(t, "(assert (distinct x y))", "[-6 4][-6 -5][6 -4 5][-6]", "0 1@0 -1@1", "4 row0 0, 5 row0 0-1d")
	builds(t, "(assert (distinct x 1 2))", "[-6 4][-6 -5][6 -4 5][-9 7][-9 -8][9 -7 8][-10 3][-10 -3][10 -3 3][-11 -6][-11 -9][-11 -10][11 6 9 10][11]", "", "4 @0 1, 5 @0 1-1d, 7 @0 2, 8 @0 2-1d")
}

// An atom, and a row, that is there is taken.
func TestP131There(t *testing.T) {
	builds(t, "(assert (and (< x 1) (< (* 2 x) 2) (<= x 1) (< 1 x) (>= x 1) (< y 1)))", "[-7 4][-7 4][-7 5][-7 -5][-7 -4][-7 6][7 -4 -4 -5 5 4 -6][7]", "", "4 @0 1-1d, 5 @0 1, 6 @1 1-1d")
	builds(t, "(assert (< (+ x y) 1))(assert (> 3 (* 3 (+ y x))))(assert (< (+ (- x) (- y)) 1))(assert (< (+ x z) 1))(assert (<= (/ (+ x y) 2) (- 0.5)))",
		"[4][4][-5][6][5]", "0 1@0 1@1, 0 1@0 1@2", "4 row0 1-1d, 5 row0 -1, 6 row1 1-1d")
}

func TestP131Choice(t *testing.T) {
	const choice = "[-6 -4][-6 5][6 4 -5][-9 -7][-9 8][9 7 -8][-1 6][1 9]"
	p := builds(t, "(assert (< (ite p x y) 1))", choice+"[10]", "0 1@0 -1@3, 0 1@1 -1@3", "4 row0 0-1d, 5 row0 0, 7 row1 0-1d, 8 row1 0, 10 @3 1-1d")
	if p.Reals != 4 || p.Bools != 10 || show(p) != "10 4; 0 1@0 -1@3, 0 1@1 -1@3; 4 row0 0-1d, 5 row0 0, 7 row1 0-1d, 8 row1 0, 10 @3 1-1d; [3]"+choice+"[10]; [1 0 0 0 0 10]; 0, 0 1@0, 0 1@1, 0 1@3, 1, 0" {
		t.Errorf("%s", show(p))
	}
	// Each is a new number, with its bounds of what is chosen.
	p = builds(t, "(assert (let ((a (ite (not q) 1 (ite p 2 2)))) p))",
		"[-6 4][-6 -5][6 -4 5][-7 4][-7 -5][7 -4 5][-1 6][1 7]"+"[-10 8][-10 -9][10 -8 9][-13 -11][-13 12][13 11 -12][2 10][-2 13][1]",
		"0 1@3 -1@4", "4 @3 2, 5 @3 2-1d, 8 @4 1, 9 @4 1-1d, 11 row0 0-1d, 12 row0 0")
	if p.Reals != 5 {
		t.Errorf("%d numbers", p.Reals)
	}
}

func TestP131Sums(t *testing.T) {
	for text, want := range map[string]string{
		"x": "0 1@0", "2.5": "5/2", "0": "0",
		"(+ x y)": "0 1@0 1@1", "(+ y x 2 x 0.5)": "5/2 2@0 1@1", "(+ 1 2)": "3", "(+ x (- x))": "0", "(+ x (- x) y)": "0 1@1", "(+ 1 z (- 1))": "0 1@2", "(+ z y x)": "0 1@0 1@1 1@2",
		"(- x)": "0 -1@0", "(- 3)": "-3", "(- (+ x 1))": "-1 -1@0", "(- x y)": "0 1@0 -1@1", "(- 1 x y 2)": "-1 -1@0 -1@1", "(- x x)": "0", "(- x x x)": "0 -1@0", "(- (+ x y 1) (+ y 1))": "0 1@0",
		"(* 2 x)": "0 2@0", "(* x 2)": "0 2@0", "(* 2 (+ x 1) 3)": "6 6@0", "(* 2 3)": "6", "(* 2 3 4)": "24", "(* 0 x)": "0", "(* x 0 2)": "0", "(* (- x x) 2)": "0", "(* 3 (- x x) 2)": "0", "(* 3 (+ 4 (- x x)) 2)": "24", "(* (- 1) (- y 1))": "1 -1@1",
		"(/ x 2)": "0 1/2@0", "(/ (+ x 3) 2 (- 4))": "-3/8 -1/8@0", "(/ 3 2)": "3/2", "(/ x 0)": "0", "(/ (+ x 1) 2 0)": "0", "(/ (+ x 1) 0 2)": "0", "(/ 0 0)": "0", "(/ x (/ 1 3))": "0 3@0", "(/ (- x x) 2)": "0",
	} {
		p := built(t, read(t, "(assert (< "+text+" 0))", 8), 8)
		at := len(p.Polys) - 3
		if got := sumText(p.Polys[at]); got != want || p.Lits[at] != 0 || !areSums(p) {
			t.Errorf("%s: %s, not %s", text, got, want)
		}
	}
}

// Each node has a literal, or a sum, whether anything is asserted or not.
func TestP131Nodes(t *testing.T) {
	s := read(t, "(assert (and p (< x 1) (not p)))", 8)
	s.Asserts = nil
	if p := built(t, s, 8); show(p) != "5 3; ; 4 @0 1-1d; [3][-5 1][-5 4][-5 -1][5 -1 -4 1]; [1 0 0 4 1 -1 5]; 0, 0 1@0, 1, 0, 0, 0, 0" {
		t.Errorf("%s", show(p))
	}
	s.Asserts = []int{6, 0, 3, 6}
	if p := built(t, s, 8); clausesText(p.Clauses) != "[3][-5 1][-5 4][-5 -1][5 -1 -4 1][5][1][4][5]" {
		t.Errorf("%s", show(p))
	}
}

func TestP131ErrArg(t *testing.T) {
	good := read(t, "(assert (and p (< x 1)))", 8)
	fails(t, api.Script{Asserts: []int{0}}, 8, api.ErrArg)
	for _, at := range []int{-1, 1, 2, 5, math.MinInt, math.MaxInt} {
		s := good
		s.Asserts = []int{0, at}
		fails(t, s, 8, api.ErrArg)
	}
	for _, wrong := range []api.Node{
		{}, {Op: 22}, {Op: -1}, {Op: api.OpTrue, Var: 1}, unknown(api.OpBool, 2), unknown(api.OpReal, -1), number(made(false, api.Nat{2}, api.Nat{2})),
		node(api.OpNot, 1), node(api.OpNot, 9), node(api.OpNot, -1), node(api.OpNot), node(api.OpAnd, 0), node(api.OpMul, 1, 1), node(api.OpDiv, 1, 1), node(api.OpIte, 0, 0, 1), node(api.OpAdd, 1),
	} {
		s := good
		s.Nodes = append(good.Nodes[:len(good.Nodes):len(good.Nodes)], wrong)
		fails(t, s, 8, api.ErrArg)
	}
	s := good
	s.Reals = nil
	fails(t, s, 8, api.ErrArg)
	s = good
	s.Bools = nil
	fails(t, s, 8, api.ErrArg)
	// It is told ahead of numbers that are too great.
	great := api.Script{Nodes: []api.Node{number(power(63, 0)), node(api.OpMul, 0, 0)}}
	fails(t, great, 2, api.ErrOver)
	great.Nodes = append(great.Nodes, node(api.OpNot, 0))
	fails(t, great, 2, api.ErrArg)
}

// Limbs below 1 count as 1.
func TestP131Limbs(t *testing.T) {
	s := read(t, "(assert (< (* 3 x) 4294967295))", 1)
	for _, limbs := range []int{math.MinInt, -1, 0, 1, 2, 1000, math.MaxInt} {
		if p := built(t, s, limbs); atomsText(p.Atoms) != "4 @0 1431655765-1d" {
			t.Errorf("%s", show(p))
		}
	}
	s = read(t, "(assert (< (* 3 x) (+ 4294967295 1)))", 1)
	for _, limbs := range []int{math.MinInt, -1, 0, 1} {
		fails(t, s, limbs, api.ErrOver)
	}
	if p := built(t, s, 2); atomsText(p.Atoms) != "4 @0 4294967296/3-1d" {
		t.Errorf("%s", show(p))
	}
}

// Of as many kids as there may be each is looked at once.
func TestP131ManyKids(t *testing.T) {
	const count = 100_000
	s := api.Script{Bools: make([]string, count), Reals: make([]string, count)}
	var truths, numbers []int
	for v := range count {
		s.Nodes = append(s.Nodes, unknown(api.OpBool, v), unknown(api.OpReal, count-1-v))
		truths, numbers = append(truths, 2*v), append(numbers, 2*v+1)
	}
	s.Nodes = append(s.Nodes, node(api.OpAnd, truths...), node(api.OpOr, truths...), node(api.OpImplies, truths...), node(api.OpXor, truths...), node(api.OpEqual, truths...),
		node(api.OpAdd, numbers...), node(api.OpSub, numbers...), node(api.OpLess, numbers...))
	p := built(t, s, 1)
	// Four have a clause for each truth; odd and its like have four; the numbers are one row each two.
	clauses := 1 + 3*(count+1) + 2*4*(count-1) + count + count
	if len(p.Clauses) != clauses || len(p.Rows) != count-1 || len(p.Atoms) != count-1 || p.Bools != count+1+3+2*(count-1)+1+count {
		t.Errorf("%d clauses, not %d; %d rows, %d atoms, %d truths", len(p.Clauses), clauses, len(p.Rows), len(p.Atoms), p.Bools)
	}
	sums := p.Polys[len(p.Polys)-3:]
	if len(sums[0].Monos) != count || len(sums[1].Monos) != count || !linear.Right(sums[0]) || !linear.Right(sums[1]) {
		t.Errorf("sums of %d and %d", len(sums[0].Monos), len(sums[1].Monos))
	}
	for v := range count {
		// The first kid is the last unknown.
		times := int64(-1)
		if v == count-1 {
			times = 1
		}
		if ratio.Cmp(sums[0].Monos[v].Coef, ratio.Of(1)) != 0 || ratio.Cmp(sums[1].Monos[v].Coef, ratio.Of(times)) != 0 {
			t.Fatalf("%v and %v", sums[0].Monos[v], sums[1].Monos[v])
		}
	}
}

// Rows and atoms are found, however many there are.
func TestP131ManyAtoms(t *testing.T) {
	const count = 50_000
	s := api.Script{Reals: make([]string, 2)}
	s.Nodes = append(s.Nodes, unknown(api.OpReal, 0), unknown(api.OpReal, 1))
	for range 2 {
		for i := range int64(count) {
			at := len(s.Nodes)
			s.Nodes = append(s.Nodes, number(ratio.Of(i+1)), node(api.OpMul, 1, at), node(api.OpAtMost, 0, at), node(api.OpAtMost, 0, at+1))
		}
	}
	p := built(t, s, 1)
	if len(p.Rows) != count || len(p.Atoms) != 2*count || p.Bools != 1+2*count || len(p.Clauses) != 1 {
		t.Fatalf("%d rows, %d atoms, %d clauses", len(p.Rows), len(p.Atoms), len(p.Clauses))
	}
	for i := range 4 * count {
		if at := 2 + i; p.Lits[at] != p.Lits[at+4*count] {
			t.Fatalf("the literal %d is found as %d", p.Lits[at], p.Lits[at+4*count])
		}
	}
}

// As many nodes as there may be are built.
func TestP131ManyNodes(t *testing.T) {
	s := api.Script{Nodes: make([]api.Node, api.MaxNodes), Asserts: []int{api.MaxNodes - 1}}
	for i := range s.Nodes {
		s.Nodes[i] = node(api.OpNot, i-1)
	}
	s.Nodes[0] = node(api.OpTrue)
	if p := built(t, s, 1); len(p.Lits) != api.MaxNodes || len(p.Polys) != api.MaxNodes || clausesText(p.Clauses) != "[1][-1]" {
		t.Errorf("%d literals, %d sums, %s", len(p.Lits), len(p.Polys), clausesText(p.Clauses))
	}
	s.Nodes = append(s.Nodes, node(api.OpTrue))
	fails(t, s, 1, api.ErrArg)
}
