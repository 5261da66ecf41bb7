package cnf_test

import (
	"fmt"
	"math/big"
	"slices"
	"strconv"
	"strings"

	"steelyard/api"
)

// sum is a sum by its unknowns; that at -1 is its number. None is 0.
type sum map[int]*big.Rat

// put adds an unknown to a sum, so many times.
func (s sum) put(v int, times *big.Rat) {
	all := new(big.Rat).Set(times)
	if old, ok := s[v]; ok {
		all.Add(all, old)
	}
	s[v] = all
	if all.Sign() == 0 {
		delete(s, v)
	}
}

// number gives the number of a sum.
func (s sum) number() *big.Rat {
	if x, ok := s[-1]; ok {
		return x
	}
	return new(big.Rat)
}

// unknowns gives those of a sum, rising.
func (s sum) unknowns() []int {
	var list []int
	for v := range s {
		if v >= 0 {
			list = append(list, v)
		}
	}
	slices.Sort(list)
	return list
}

// text gives a sum as sumText does.
func (s sum) text() string {
	out := s.number().RatString()
	for _, v := range s.unknowns() {
		out += " " + s[v].RatString() + "@" + strconv.Itoa(v)
	}
	return out
}

// model is a problem by the words of the document, piece by piece.
type model struct {
	limbs, bools, reals, top int
	over                     bool
	rows, atoms              []string
	told                     []string // what each atom tells, without its truth
	truths                   []int    // the literals of the atoms
	clauses                  [][]int
	lits                     []int
	sums                     []sum
}

// modelOf gives the problem of a script that is right.
func modelOf(s api.Script, limbs int) *model {
	m := &model{limbs: limbs, bools: len(s.Bools), reals: len(s.Reals)}
	m.top = m.truth()
	m.clause(m.top)
	for _, n := range s.Nodes {
		m.add(n)
	}
	for _, at := range s.Asserts {
		m.clause(m.lits[at])
	}
	return m
}

// show gives all of a problem as the other show does.
func (m *model) show() string {
	var sums []string
	for _, s := range m.sums {
		sums = append(sums, s.text())
	}
	return fmt.Sprintf("%d %d; %s; %s; %s; %v; %s", m.bools, m.reals, strings.Join(m.rows, ", "), strings.Join(m.atoms, ", "), clausesText(m.clauses), m.lits, strings.Join(sums, ", "))
}

func (m *model) truth() int {
	m.bools++
	return m.bools
}

func (m *model) clause(lits ...int) { m.clauses = append(m.clauses, slices.Clone(lits)) }

// fit gives a number that was reckoned; the bench is over, if it is too great.
func (m *model) fit(x *big.Rat) *big.Rat {
	m.over = m.over || isOver(x, m.limbs)
	return x
}

// times gives a sum so many times, each number reckoned.
func (m *model) times(k *big.Rat, s sum) sum {
	out := sum{}
	for v, x := range s {
		out.put(v, m.fit(new(big.Rat).Mul(k, x)))
	}
	return out
}

// plus gives a sum, and another one so many times.
func (m *model) plus(s sum, k int64, other sum) sum {
	out := sum{}
	for _, part := range []sum{s, m.times(big.NewRat(k, 1), other)} {
		for v, x := range part {
			out.put(v, x)
		}
	}
	for _, x := range out {
		m.fit(x)
	}
	return out
}

func (m *model) both(list []int) int {
	if len(list) == 0 {
		return m.top
	}
	if len(list) == 1 {
		return list[0]
	}
	a := m.truth()
	last := []int{a}
	for _, l := range list {
		m.clause(-a, l)
		last = append(last, -l)
	}
	m.clause(last...)
	return a
}

func (m *model) either(list []int) int {
	if len(list) == 0 {
		return -m.top
	}
	if len(list) == 1 {
		return list[0]
	}
	a := m.truth()
	for _, l := range list {
		m.clause(a, -l)
	}
	m.clause(append([]int{-a}, list...)...)
	return a
}

func (m *model) odd(l, k int) int {
	a := m.truth()
	m.clause(-a, l, k)
	m.clause(-a, -l, -k)
	m.clause(a, -l, k)
	m.clause(a, l, -k)
	return a
}

// atom gives the literal of the atom of what stands there and a bound.
func (m *model) atom(s sum, x *big.Rat, less bool) int {
	names := s.unknowns()
	what := "@" + strconv.Itoa(names[0])
	if len(names) > 1 {
		at := slices.Index(m.rows, s.text())
		if at < 0 {
			at = len(m.rows)
			m.rows = append(m.rows, s.text())
		}
		what = "row" + strconv.Itoa(at)
	}
	what += " " + x.RatString()
	if less {
		what += "-1d"
	}
	if at := slices.Index(m.told, what); at >= 0 {
		return m.truths[at]
	}
	a := m.truth()
	m.told, m.truths, m.atoms = append(m.told, what), append(m.truths, a), append(m.atoms, strconv.Itoa(a)+" "+what)
	return a
}

func (m *model) below(p sum, strict bool) int {
	names := p.unknowns()
	if len(names) == 0 {
		if p.number().Sign() < 0 || p.number().Sign() == 0 && !strict {
			return m.top
		}
		return -m.top
	}
	k := m.fit(p[names[0]])
	q := sum{}
	for _, v := range names {
		q.put(v, m.fit(new(big.Rat).Quo(p[v], k)))
	}
	x := m.fit(new(big.Rat).Quo(new(big.Rat).Neg(p.number()), k))
	if k.Sign() > 0 {
		return m.atom(q, x, strict)
	}
	return -m.atom(q, x, !strict)
}

func (m *model) same(s, t sum) int {
	first := m.below(m.plus(s, -1, t), false)
	return m.both([]int{first, m.below(m.plus(t, -1, s), false)})
}

// pairs gives the literals of each two of so many, side by side or whichever.
func pairs(count int, beside bool, literal func(i, j int) int) []int {
	var list []int
	for i := range count {
		for j := i + 1; j < count; j++ {
			if j == i+1 || !beside {
				list = append(list, literal(i, j))
			}
		}
	}
	return list
}

// add adds a node.
func (m *model) add(n api.Node) {
	var lits []int
	var sums []sum
	for _, kid := range n.Kids {
		lits, sums = append(lits, m.lits[kid]), append(sums, m.sums[kid])
	}
	lit, s := 0, sum{}
	switch {
	case n.Op == api.OpReal || n.Op == api.OpNumber || n.Op >= api.OpAdd:
		s = m.value(n, sums)
	case n.Op == api.OpIte && lits[1] == 0:
		s.put(m.reals, big.NewRat(1, 1))
		m.reals++
		l := m.same(s, sums[1])
		r := m.same(s, sums[2])
		m.clause(-lits[0], l)
		m.clause(lits[0], r)
	case n.Op >= api.OpEqual && lits[0] == 0:
		lit = m.order(n.Op, sums)
	default:
		lit = m.joined(n, lits)
	}
	m.lits, m.sums = append(m.lits, lit), append(m.sums, s)
}

// value gives the sum of a node that is a number.
func (m *model) value(n api.Node, sums []sum) sum {
	s := sum{}
	switch n.Op {
	case api.OpReal:
		s.put(n.Var, big.NewRat(1, 1))
		return s
	case api.OpNumber:
		s.put(-1, toRat(n.Number))
		return s
	case api.OpMul:
		main := 0
		for i, other := range sums {
			if len(other.unknowns()) > 0 {
				main = i
			}
		}
		s = sums[main]
		for i, other := range sums {
			if i != main {
				s = m.times(other.number(), s)
			}
		}
		return s
	}
	if n.Op == api.OpSub && len(sums) == 1 {
		return m.times(big.NewRat(-1, 1), sums[0])
	}
	s = sums[0]
	for _, other := range sums[1:] {
		switch {
		case n.Op == api.OpAdd:
			s = m.plus(s, 1, other)
		case n.Op == api.OpSub:
			s = m.plus(s, -1, other)
		case other.number().Sign() == 0:
			s = sum{}
		default:
			s = m.times(m.fit(new(big.Rat).Inv(other.number())), s)
		}
	}
	return s
}

// order gives the literal of an operator over numbers.
func (m *model) order(op int, sums []sum) int {
	return m.both(pairs(len(sums), op != api.OpDistinct, func(i, j int) int {
		switch op {
		case api.OpEqual:
			return m.same(sums[i], sums[j])
		case api.OpDistinct:
			return -m.same(sums[i], sums[j])
		case api.OpLess, api.OpAtMost:
			return m.below(m.plus(sums[i], -1, sums[j]), op == api.OpLess)
		}
		return m.below(m.plus(sums[j], -1, sums[i]), op == api.OpGreater)
	}))
}

// joined gives the literal of an operator over truths.
func (m *model) joined(n api.Node, lits []int) int {
	switch n.Op {
	case api.OpTrue:
		return m.top
	case api.OpFalse:
		return -m.top
	case api.OpBool:
		return n.Var + 1
	case api.OpNot:
		return -lits[0]
	case api.OpAnd:
		return m.both(lits)
	case api.OpOr:
		return m.either(lits)
	case api.OpImplies:
		var list []int
		for i, l := range lits {
			if i < len(lits)-1 {
				l = -l
			}
			list = append(list, l)
		}
		return m.either(list)
	case api.OpXor:
		a := lits[0]
		for _, l := range lits[1:] {
			a = m.odd(a, l)
		}
		return a
	case api.OpIte:
		a, c, t, e := m.truth(), lits[0], lits[1], lits[2]
		m.clause(-c, -t, a)
		m.clause(-c, t, -a)
		m.clause(c, -e, a)
		m.clause(c, e, -a)
		return a
	case api.OpEqual:
		return m.both(pairs(len(lits), true, func(i, j int) int { return -m.odd(lits[i], lits[j]) }))
	}
	return m.both(pairs(len(lits), false, func(i, j int) int { return m.odd(lits[i], lits[j]) }))
}
