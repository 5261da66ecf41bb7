package clause_test

import (
	"fmt"
	"maps"
	"slices"
	"testing"

	"steelyard/api"
	"steelyard/clause"
)

// model is a search by the document's words: clauses, and what was told, in order.
type model struct {
	truths  int
	clauses []api.Clause
	trail   []int
	heads   []int
	reasons map[int]int // by the literal that was told
}

// newModel gives the model of a search that is right.
func newModel(s api.Search) *model {
	m := &model{len(s.Value), copyOf(s).Clauses, slices.Clone(s.Trail), slices.Clone(s.Heads), map[int]int{}}
	for _, lit := range s.Trail {
		m.reasons[lit] = s.Reason[max(lit, -lit)-1]
	}
	return m
}

func (m *model) isLiteral(lit int) bool { return lit != 0 && lit >= -m.truths && lit <= m.truths }

func (m *model) value(lit int) int {
	switch {
	case slices.Contains(m.trail, lit):
		return 1
	case lit != 0 && slices.Contains(m.trail, -lit):
		return -1
	}
	return 0
}

func (m *model) tell(lit, reason int) bool {
	if !m.isLiteral(lit) || m.value(lit) < 0 {
		return false
	}
	if m.value(lit) == 0 {
		m.trail = append(m.trail, lit)
		m.reasons[lit] = reason
	}
	return true
}

func (m *model) decide(lit int) bool {
	if !m.isLiteral(lit) || m.value(lit) != 0 {
		return false
	}
	m.heads = append(m.heads, len(m.trail))
	return m.tell(lit, -1)
}

func (m *model) back(level int) []int {
	var gone []int
	for len(m.heads) > max(level, 0) {
		for len(m.trail) > m.heads[len(m.heads)-1] {
			lit := m.trail[len(m.trail)-1]
			gone = append(gone, lit)
			delete(m.reasons, lit)
			m.trail = m.trail[:len(m.trail)-1]
		}
		m.heads = m.heads[:len(m.heads)-1]
	}
	return gone
}

func (m *model) add(lits []int, learned bool) (int, api.Errno) {
	seen := map[int]bool{}
	for _, lit := range lits {
		if !m.isLiteral(lit) || seen[lit] || seen[-lit] {
			return 0, api.ErrArg
		}
		seen[lit] = true
	}
	if len(lits) < 2 {
		return 0, api.ErrArg
	}
	m.clauses = append(m.clauses, api.Clause{Lits: slices.Clone(lits), Learned: learned})
	return len(m.clauses) - 1, api.OK
}

// reduce takes the learned clause of the least use out, the first of these, as long as there are too many.
func (m *model) reduce(most int) {
	if len(m.heads) > 0 {
		return
	}
	for _, lit := range m.trail {
		m.reasons[lit] = -1
	}
	if m.learned() <= most {
		return
	}
	for m.learned() > max(most, 0)/2 {
		least := -1
		for at, c := range m.clauses {
			if c.Learned && (least < 0 || c.Use < m.clauses[least].Use) {
				least = at
			}
		}
		m.clauses = slices.Delete(m.clauses, least, least+1)
	}
}

func (m *model) learned() int {
	count := 0
	for _, c := range m.clauses {
		if c.Learned {
			count++
		}
	}
	return count
}

// level gives the level at which a literal was told.
func (m *model) level(lit int) int {
	level, at := 0, slices.Index(m.trail, lit)
	for _, head := range m.heads {
		if head <= at {
			level++
		}
	}
	return level
}

// follows gives all that follows of what was told, clause by clause; false, if a clause is false in all its literals.
func (m *model) follows() (told map[int]bool, ok bool) {
	told = map[int]bool{}
	for _, lit := range m.trail {
		told[lit] = true
	}
	for more := true; more; {
		more = false
		for _, c := range m.clauses {
			var open []int
			isTrue := false
			for _, lit := range c.Lits {
				isTrue = isTrue || told[lit]
				if !told[-lit] {
					open = append(open, lit)
				}
			}
			if !isTrue && len(open) == 0 {
				return told, false
			}
			if !isTrue && len(open) == 1 {
				told[open[0]] = true
				more = true
			}
		}
	}
	return told, true
}

// isClosed tells whether of each clause one literal is told true, or two aren't told.
func (m *model) isClosed() bool {
	for _, c := range m.clauses {
		trues, opens := 0, 0
		for _, lit := range c.Lits {
			switch m.value(lit) {
			case 1:
				trues++
			case 0:
				opens++
			}
		}
		if trues == 0 && opens < 2 {
			return false
		}
	}
	return true
}

// run takes what Run did over, and tells an error, if it isn't what the document says.
func (m *model) run(t *testing.T, what string, s api.Search, at int) {
	t.Helper()
	told, ok := m.follows()
	was := len(m.trail)
	if len(s.Trail) < was || !slices.Equal(s.Trail[:was], m.trail) || !modelRight(s) {
		t.Fatalf("%s: %v; the trail was %v", what, s, m.trail)
	}
	for _, lit := range s.Trail[was:] {
		m.tell(lit, s.Reason[max(lit, -lit)-1])
		if m.reasons[lit] < 0 {
			t.Fatalf("%s: %d is told by no clause", what, lit)
		}
	}
	if (at == -1) != ok {
		t.Fatalf("%s: %d, but a clause is false: %v; %v", what, at, !ok, s)
	}
	if at == -1 {
		all := map[int]bool{}
		for _, lit := range s.Trail {
			all[lit] = true
		}
		if !maps.Equal(all, told) || !m.isClosed() || s.Next != len(s.Trail) {
			t.Fatalf("%s: %v; %v follow", what, s, told)
		}
		return
	}
	for _, lit := range m.clauses[at].Lits {
		if m.value(lit) != -1 {
			t.Fatalf("%s: %d of the clause %d isn't told false: %v", what, lit, at, s)
		}
	}
	m.clauses[at].Use++
}

// is tells an error, if a search isn't right, or isn't as its model. (In which order a clause's literals are is left open.)
func is(t *testing.T, what string, s api.Search, m *model) {
	t.Helper()
	if !clause.Right(s) || !modelRight(s) {
		t.Fatalf("%s: %v isn't right", what, s)
	}
	if !slices.Equal(s.Trail, m.trail) || !slices.Equal(s.Heads, m.heads) || len(s.Clauses) != len(m.clauses) || len(s.Value) != m.truths {
		t.Fatalf("%s: %v, not %v", what, s, *m)
	}
	for _, lit := range m.trail {
		v := max(lit, -lit) - 1
		if s.Level[v] != m.level(lit) || s.Reason[v] != m.reasons[lit] {
			t.Fatalf("%s: %d is told at the level %d by %d, not as in %v", what, lit, s.Level[v], s.Reason[v], *m)
		}
	}
	for at, c := range s.Clauses {
		want := m.clauses[at]
		if c.Learned != want.Learned || c.Use != want.Use || !slices.Equal(slices.Sorted(slices.Values(c.Lits)), slices.Sorted(slices.Values(want.Lits))) {
			t.Fatalf("%s: the clause %d is %v, not %v", what, at, c, want)
		}
	}
}

// modelRight tells whether a search may be, by the document's words.
func modelRight(s api.Search) bool {
	n := len(s.Value)
	if len(s.Level) != n || len(s.Reason) != n || len(s.Watch) != 2*n || s.Next < 0 || s.Next > len(s.Trail) {
		return false
	}
	m := model{truths: n}
	watch := make([][]int, 2*n)
	for at, c := range s.Clauses {
		if _, code := m.add(c.Lits, false); code != api.OK || c.Use < 0 {
			return false
		}
		for _, lit := range c.Lits[:2] {
			i := 2 * (lit - 1)
			if lit < 0 {
				i = 2*(-lit-1) + 1
			}
			watch[i] = append(watch[i], at)
		}
	}
	for i, list := range s.Watch {
		if !slices.Equal(slices.Sorted(slices.Values(list)), watch[i]) {
			return false
		}
	}
	return modelTrail(s, n)
}

// modelTrail tells all again that was told, level by level.
func modelTrail(s api.Search, n int) bool {
	m := model{truths: n, reasons: map[int]int{}}
	heads := s.Heads
	for i, lit := range s.Trail {
		if !m.isLiteral(lit) || m.value(lit) != 0 {
			return false
		}
		reason := s.Reason[max(lit, -lit)-1]
		if len(heads) > 0 && heads[0] == i {
			m.decide(lit)
			heads = heads[1:]
			if reason != -1 {
				return false
			}
			continue
		}
		if reason < -1 || reason >= len(s.Clauses) {
			return false
		}
		if reason >= 0 {
			isIn := false
			for _, other := range s.Clauses[reason].Lits {
				isIn = isIn || other == lit
				if other != lit && m.value(other) != -1 {
					return false
				}
			}
			if !isIn {
				return false
			}
		}
		m.tell(lit, reason)
	}
	if len(heads) > 0 {
		return false
	}
	for v := range n {
		value := m.value(v + 1)
		if s.Value[v] != value || value == 0 && (s.Level[v] != 0 || s.Reason[v] != -1) || value != 0 && s.Level[v] != m.level(value*(v+1)) {
			return false
		}
	}
	return true
}

// copyOf gives a search in memory of its own.
func copyOf(s api.Search) api.Search {
	c := api.Search{Value: slices.Clone(s.Value), Level: slices.Clone(s.Level), Reason: slices.Clone(s.Reason), Trail: slices.Clone(s.Trail), Heads: slices.Clone(s.Heads), Next: s.Next}
	for _, x := range s.Clauses {
		c.Clauses = append(c.Clauses, api.Clause{Lits: slices.Clone(x.Lits), Learned: x.Learned, Use: x.Use})
	}
	for _, list := range s.Watch {
		c.Watch = append(c.Watch, slices.Clone(list))
	}
	return c
}

// stays tells an error, if a search is another one than it was.
func stays(t *testing.T, what string, s, was api.Search) {
	t.Helper()
	if a, b := fmt.Sprint(s), fmt.Sprint(was); a != b {
		t.Fatalf("%s: %s, not %s", what, a, b)
	}
}

// with gives a search of so many truths with clauses, of which those behind the first so many are learned.
func with(t *testing.T, bools, given int, clauses ...[]int) api.Search {
	t.Helper()
	s := clause.New(bools)
	for i, lits := range clauses {
		if at, code := clause.Add(&s, lits, i >= given); at != i || code != api.OK {
			t.Fatalf("%v: %d, %v", lits, at, code)
		}
	}
	return s
}

// says tells an error, if a thing's text is another one.
func says(t *testing.T, what string, thing any, want string) {
	t.Helper()
	if is := fmt.Sprint(thing); is != want {
		t.Errorf("%s: %s, not %s", what, is, want)
	}
}
