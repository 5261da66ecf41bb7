package script

import (
	"slices"

	"steelyard/api"
	"steelyard/term"
)

// fewSteps is how many steps a macro has at most that is put down step by step where it is called. One of more is a single step there: so what is kept of macros grows with the text, not with their nodes. But were all so, macros without nodes might call each other more often than ever ends, and deeper than calls may go.
const fewSteps = 16

// macro is a term with parameters, as the steps that lead to it. By marks the parameters are told first, then what each step comes to.
type macro struct {
	sorts []int // of the parameters
	steps []step
	mark  int // what the term comes to
}

// step is a node, or a macro over what stands in the node's Kids.
type step struct {
	macro *macro // nil: it is a node
	node  api.Node
}

// over gives a step over those that its kids are told by.
func (st step) over(list []int) step {
	kids := make([]int, len(st.node.Kids))
	for i, kid := range st.node.Kids {
		kids[i] = list[kid]
	}
	st.node.Kids = kids
	return st
}

// add adds the nodes of a step over places, and gives the place of what it comes to.
func (st step) add(t *term.Terms) (int, api.Errno) {
	if st.macro == nil {
		return t.Add(st.node)
	}
	return st.macro.follow(st.node.Kids, func(inner step) (int, api.Errno) { return inner.add(t) })
}

// follow takes the steps, each over what those ahead came to, from arguments on.
func (m *macro) follow(args []int, take func(st step) (int, api.Errno)) (int, api.Errno) {
	list := slices.Grow(slices.Clone(args), len(m.steps))
	for _, st := range m.steps {
		next, code := take(st.over(list))
		if code != api.OK {
			return 0, code
		}
		list = append(list, next)
	}
	return list[m.mark], api.OK
}

// sheet is where terms are put down; what is put down has a mark, by which it is told from then on.
type sheet struct {
	terms  *term.Terms
	places []int  // of each mark its node's place
	macro  *macro // whose term it is, and which keeps the steps; nil: it is the script's own
}

// sort gives the sort of what is at a mark.
func (s *sheet) sort(mark int) int { return s.terms.Sort(s.places[mark]) }

// param puts down a parameter, as an unknown of its own; that is none of the steps.
func (s *sheet) param(sort int) (int, api.Errno) {
	u := unknown{sort: sort, number: s.terms.Grow(sort)}
	return s.put(s.terms.Add(u.node()))
}

// take puts down a step over marks.
func (s *sheet) take(st step) (int, api.Errno) {
	mark, code := s.put(st.over(s.places).add(s.terms))
	if code == api.OK && s.macro != nil {
		s.macro.steps = append(s.macro.steps, st)
	}
	return mark, code
}

// put gives the next mark to a place, unless there is an error.
func (s *sheet) put(place int, code api.Errno) (int, api.Errno) {
	if code != api.OK {
		return 0, code
	}
	s.places = append(s.places, place)
	return len(s.places) - 1, api.OK
}

// call puts down a macro's term over marks.
func (s *sheet) call(m *macro, args []int) (int, api.Errno) {
	if len(m.steps) <= fewSteps {
		return m.follow(args, s.take)
	}
	return s.take(step{macro: m, node: api.Node{Kids: args}})
}
