package term_test

import (
	"math"
	"math/rand/v2"
	"reflect"
	"slices"
	"testing"

	"steelyard/api"
	"steelyard/ratio"
	"steelyard/term"
)

// roomy gives a node of its own memory, whose lists have room behind them, that nobody may touch, and all of that memory.
func roomy(n api.Node) (api.Node, []int, [2]api.Nat) {
	kids := append(slices.Clone(n.Kids), 77, 77)
	parts := [2]api.Nat{append(slices.Clone(n.Number.Num.Mag), 77, 77), append(slices.Clone(n.Number.Den), 77, 77)}
	n.Kids = kids[:len(n.Kids)]
	n.Number.Num.Mag, n.Number.Den = parts[0][:len(n.Number.Num.Mag)], parts[1][:len(n.Number.Den)]
	return n, kids, parts
}

// spoil writes over all of the memory of nodes.
func spoil(nodes []api.Node) {
	for _, n := range nodes {
		for _, part := range []api.Nat{n.Number.Num.Mag, n.Number.Den} {
			part = part[:cap(part)]
			for i := range part {
				part[i] = 0xdead
			}
		}
		kids := n.Kids[:cap(n.Kids)]
		for i := range kids {
			kids[i] = -5
		}
	}
	clear(nodes[:cap(nodes)])
}

// memory gives where the lists of nodes are kept.
func memory(nodes []api.Node) []uintptr {
	list := []uintptr{reflect.ValueOf(nodes).Pointer()}
	for _, n := range nodes {
		if len(n.Kids) > 0 {
			list = append(list, reflect.ValueOf(n.Kids).Pointer())
		}
		for _, part := range []api.Nat{n.Number.Num.Mag, n.Number.Den} {
			if len(part) > 0 {
				list = append(list, reflect.ValueOf(part).Pointer())
			}
		}
	}
	return list
}

// someRight gives nodes that are right over unknowns of a bed.
func someRight(t *testing.T) []api.Node {
	t.Helper()
	nodes := bed(t).Nodes()
	for _, op := range allOps() {
		nodes = append(nodes, example(op))
	}
	return append(nodes, api.Node{Op: api.OpNumber, Number: made(true, api.Nat{1, 2, 3}, api.Nat{0, 1})})
}

// Rule 4: what is handed in isn't changed, and isn't kept.
func TestHandedIn(t *testing.T) {
	x := term.New(2, 2)
	nodes := someRight(t)
	for at, want := range nodes {
		n, kids, parts := roomy(want)
		adds(t, x, n, at)
		if !same(n, want) || !slices.Equal(kids, append(slices.Clone(want.Kids), 77, 77)) {
			t.Errorf("%v is changed", want)
		}
		if !slices.Equal(parts[0][len(n.Number.Num.Mag):], api.Nat{77, 77}) || !slices.Equal(parts[1][len(n.Number.Den):], api.Nat{77, 77}) {
			t.Errorf("what is behind %v is changed", want)
		}
		spoil([]api.Node{n})
	}
	holds(t, x, nodes)
	handed := x.Nodes()
	if !term.Right(handed, 2, 2) || !slices.EqualFunc(handed, nodes, same) {
		t.Error("Right changes what is handed in")
	}
}

// Rule 4: what is told is new memory each time, and each list has its own.
func TestNewMemory(t *testing.T) {
	x := term.New(2, 2)
	want := someRight(t)
	for at, n := range want {
		adds(t, x, n, at)
	}
	first, second := x.Nodes(), x.Nodes()
	places := slices.Concat(memory(first), memory(second), memory(want))
	count := len(places)
	slices.Sort(places)
	if len(slices.Compact(places)) != count {
		t.Error("two lists share memory")
	}
	spoil(second)
	if !slices.EqualFunc(first, want, same) {
		t.Error("two answers share memory")
	}
	spoil(first)
	holds(t, x, want)
	adds(t, x, over(api.OpNot, boolP), len(want))
	// Nothing that is behind an answer is what comes next.
	_ = append(x.Nodes(), over(api.OpFalse))
	holds(t, x, append(slices.Clone(want), over(api.OpNot, boolP)))
}

// Rule 3: a list without elements and a nil list are one.
func TestNoElements(t *testing.T) {
	none := made(false, api.Nat{}, api.Nat{})
	for _, op := range []int{api.OpTrue, api.OpFalse, api.OpBool, api.OpReal, api.OpNumber} {
		for _, n := range []api.Node{{Op: op}, {Op: op, Kids: []int{}}, {Op: op, Number: none}, {Op: op, Kids: []int{}, Number: none}} {
			x := term.New(1, 1)
			adds(t, x, n, 0)
			holds(t, x, []api.Node{{Op: op}})
			if !term.Right([]api.Node{n}, 1, 1) {
				t.Errorf("%v", n)
			}
		}
	}
	if !term.Right([]api.Node{}, 0, 0) {
		t.Error("no nodes")
	}
}

// Rule 7: with an error nothing changes.
func TestErrorsChangeNothing(t *testing.T) {
	x := bed(t)
	want := x.Nodes()
	for _, n := range []api.Node{over(22), over(api.OpNot, 99), over(api.OpNot), over(api.OpNot, realX), over(api.OpMul, realX, realX), unknown(api.OpBool, 2), unknown(api.OpReal, 2)} {
		if at, code := x.Add(n); at != 0 || code == api.OK {
			t.Errorf("%v: at %d, %v", n, at, code)
		}
	}
	holds(t, x, want)
	if b, r := x.Grow(api.SortBool), x.Grow(api.SortReal); b != 2 || r != 2 {
		t.Errorf("%d and %d", b, r)
	}
	adds(t, x, over(api.OpTrue), bedNodes)
}

// Terms don't know of one another.
func TestApart(t *testing.T) {
	x, y := term.New(1, 1), term.New(1, 1)
	x.Grow(api.SortBool)
	adds(t, x, unknown(api.OpBool, 1), 0)
	if _, code := y.Add(unknown(api.OpBool, 1)); code != api.ErrArg {
		t.Errorf("%v", code)
	}
	if v := y.Grow(api.SortBool); v != 1 || y.Sort(0) != 0 {
		t.Errorf("%d", v)
	}
	holds(t, y, nil)
}

// someNumber gives a number that often isn't in its one form.
func someNumber(r *rand.Rand) api.Ratio {
	switch r.IntN(4) {
	case 0:
		odd := oddRatios()
		return odd[r.IntN(len(odd))]
	case 1:
		return made(r.IntN(2) == 0, api.Nat{r.Uint32N(9), r.Uint32N(2)}[:r.IntN(3)], api.Nat{r.Uint32N(9), r.Uint32N(2)}[:r.IntN(3)])
	}
	return ratio.Of(r.Int64N(20) - 10)
}

// someKid gives the place of a node, most often of that sort.
func someKid(r *rand.Rand, sorts []int, sort int) int {
	nodes := len(sorts)
	if nodes == 0 || r.IntN(50) == 0 {
		return []int{-1, nodes, nodes + 1, math.MinInt, math.MaxInt}[r.IntN(5)]
	}
	kid := r.IntN(nodes)
	for range 5 {
		if sorts[kid] != sort {
			kid = r.IntN(nodes)
		}
	}
	return kid
}

// someNode gives a node that is right about as often as it is wrong, behind nodes of some sorts.
func someNode(r *rand.Rand, sorts []int) api.Node {
	n := api.Node{Op: 1 + r.IntN(21)}
	if n.Op == api.OpNumber || r.IntN(40) == 0 {
		n.Number = someNumber(r)
	}
	if n.Op == api.OpBool || n.Op == api.OpReal || r.IntN(40) == 0 {
		n.Var = r.IntN(7) - 1
	}
	if r.IntN(60) == 0 {
		n.Op = []int{0, 22, -1, math.MinInt, math.MaxInt, 1<<32 + 1}[r.IntN(6)]
	}
	if n.Op <= api.OpNumber && r.IntN(20) > 0 {
		return n
	}
	count := 2 + r.IntN(2)
	switch {
	case r.IntN(8) == 0:
		count = r.IntN(6)
	case n.Op == api.OpNot:
		count = 1
	case n.Op == api.OpIte:
		count = 3
	}
	for i := range count {
		sort := api.SortReal
		if n.Op <= api.OpImplies || n.Op == api.OpIte && i == 0 {
			sort = api.SortBool
		}
		n.Kids = append(n.Kids, someKid(r, sorts, sort))
	}
	return n
}

// P2 and P9.1 to P9.3: the same calls give the same answers; and those are the document's, whatever the nodes are.
func TestP2SameCalls(t *testing.T) {
	r := rand.New(rand.NewPCG(9, 1))
	seen := map[api.Errno]int{}
	for range 2000 {
		bools, reals := r.IntN(6)-1, r.IntN(6)-1
		m := &model{bools: max(bools, 0), reals: max(reals, 0)}
		x, y := term.New(bools, reals), term.New(bools, reals)
		var nodes, all []api.Node
		for range r.IntN(60) {
			n := someNode(r, m.sorts)
			all = append(all, n)
			want := m.add(n)
			seen[want]++
			at, code := x.Add(n)
			again, also := y.Add(n)
			if code != want || code == api.OK && at != len(nodes) || code != api.OK && at != 0 || again != at || also != code {
				t.Fatalf("%v behind %v: at %d, %v; then at %d, %v; not %v", n, nodes, at, code, again, also, want)
			}
			if code == api.OK {
				nodes = append(nodes, n)
			}
		}
		for at, sort := range m.sorts {
			if x.Sort(at) != sort || x.Ground(at) != m.ground[at] || y.Sort(at) != sort || y.Ground(at) != m.ground[at] {
				t.Fatalf("%d of %v: %d, %v", at, nodes, x.Sort(at), x.Ground(at))
			}
		}
		holds(t, x, nodes)
		holds(t, y, nodes)
		rightBy(t, nodes, all, bools, reals)
	}
	for _, code := range []api.Errno{api.OK, api.ErrArg, api.ErrRange, api.ErrCount, api.ErrSort, api.ErrLine} {
		if seen[code] < 500 {
			t.Errorf("%v: %d times", code, seen[code])
		}
	}
}

// rightBy tells an error, if Right doesn't tell that nodes are right, and whether all that were tried are.
func rightBy(t *testing.T, nodes, all []api.Node, bools, reals int) {
	t.Helper()
	for range 2 {
		if !term.Right(nodes, bools, reals) {
			t.Errorf("%v aren't right", nodes)
		}
	}
	m := &model{bools: max(bools, 0), reals: max(reals, 0)}
	right := !slices.ContainsFunc(all, func(n api.Node) bool { return m.add(n) != api.OK })
	if term.Right(all, bools, reals) != right {
		t.Errorf("%v: right is %v", all, !right)
	}
}

// P1: no call panics, whatever the arguments are.
func TestP1NoCallPanics(t *testing.T) {
	defer func() {
		if e := recover(); e != nil {
			t.Errorf("a call panics: %v", e)
		}
	}()
	edges := []int{math.MinInt, math.MinInt + 1, -1, 0, 1, 2, 3, 22, 1 << 20, 1 << 32, math.MaxInt - 1, math.MaxInt}
	numbers := append(oddRatios(), rightRatios()...)
	for _, a := range edges {
		for i, b := range edges {
			x := term.New(a, b)
			x.Sort(a)
			x.Ground(b)
			x.Grow(a)
			var nodes []api.Node
			for _, op := range append(edges, allOps()...) {
				for _, kids := range [][]int{nil, {a}, {a, b}, {0, 0}, {0, a, b}, {1, 0, 0, b}} {
					n := api.Node{Op: op, Var: b, Kids: kids, Number: numbers[i%len(numbers)]}
					nodes = append(nodes, n)
					x.Add(n)
					x.Add(over(op, kids...))
				}
			}
			x.Nodes()
			term.Right(nodes, a, b)
		}
	}
}
