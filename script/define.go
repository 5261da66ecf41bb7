package script

import (
	"steelyard/api"
	"steelyard/term"
)

// param is a parameter: its name, and its sort.
type param struct {
	name api.Sexp
	sort int
}

// params reads parameters.
func (r *reader) params(x api.Sexp) ([]param, api.Fault) {
	if !x.List {
		return nil, told(api.ErrParen, x)
	}
	var list []param
	names := map[string]int{}
	for i, kid := range x.Kids {
		p, fault := r.param(kid)
		if fault.Code != api.OK {
			return nil, fault
		}
		if _, twice := names[p.name.Tok.Text]; twice {
			return nil, told(api.ErrTwice, p.name)
		}
		names[p.name.Tok.Text] = i
		list = append(list, p)
	}
	return list, api.Fault{}
}

// param reads a parameter.
func (r *reader) param(x api.Sexp) (param, api.Fault) {
	if len(x.Kids) != 2 {
		return param{}, told(api.ErrParen, x)
	}
	if _, fault := r.name(x.Kids[0]); fault.Code != api.OK {
		return param{}, fault
	}
	sort, fault := sortOf(x.Kids[1])
	return param{name: x.Kids[0], sort: sort}, fault
}

// define reads a macro's term, that must be of a sort. Its nodes are none of the script's, so they have Terms of their own.
func (r *reader) define(params []param, sort int, x api.Sexp) (*macro, api.Fault) {
	m := &macro{}
	s := &sheet{terms: term.New(r.counts[api.SortBool], r.counts[api.SortReal]), macro: m}
	in := &scope{sheet: s, marks: map[string]int{}}
	for _, p := range params {
		mark, code := s.param(p.sort)
		if code != api.OK {
			return nil, told(code, p.name)
		}
		in.marks[p.name.Tok.Text] = mark
		m.sorts = append(m.sorts, p.sort)
	}
	mark, fault := r.term(in, x)
	if fault.Code != api.OK {
		return nil, fault
	}
	if s.sort(mark) != sort {
		return nil, told(api.ErrSort, x)
	}
	m.mark = mark
	return m, api.Fault{}
}
