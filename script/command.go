package script

import (
	"math"

	"steelyard/api"
)

// command is what a command does, when it may come, and how many parts are behind its symbol.
type command struct {
	do          func(r *reader, parts []api.Sexp) api.Fault
	when        func(r *reader) bool
	least, most int
	aside       bool // it may be ahead of set-logic
}

// commands gives all commands by their symbols.
func commands() map[string]command {
	aside := command{do: (*reader).skip, when: (*reader).isAlways, least: 1, most: math.MaxInt, aside: true}
	return map[string]command{
		"set-logic":     {do: (*reader).setLogic, when: (*reader).isNew, least: 1, most: 1},
		"set-option":    aside,
		"set-info":      aside,
		"declare-const": {do: (*reader).declareConst, when: (*reader).isOpen, least: 2, most: 2},
		"declare-fun":   {do: (*reader).declareFun, when: (*reader).isOpen, least: 3, most: 3},
		"define-fun":    {do: (*reader).defineFun, when: (*reader).isOpen, least: 4, most: 4},
		"assert":        {do: (*reader).assert, when: (*reader).isOpen, least: 1, most: 1},
		"check-sat":     {do: (*reader).check, when: (*reader).isOpen},
		"get-model":     {do: (*reader).model, when: (*reader).isChecked},
		"exit":          {do: (*reader).exit, when: (*reader).isAlways},
	}
}

// isAlways is of commands that may come at any time.
func (r *reader) isAlways() bool { return true }

// isNew tells whether set-logic may come.
func (r *reader) isNew() bool { return !r.begun }

// isOpen tells whether there was no check-sat.
func (r *reader) isOpen() bool { return !r.checked }

// isChecked tells whether there was a check-sat.
func (r *reader) isChecked() bool { return r.checked }

// skip reads a keyword, and what is behind it, of which nothing is done.
func (r *reader) skip(parts []api.Sexp) api.Fault {
	if parts[0].Tok.Kind != api.TokKeyword {
		return told(api.ErrWord, parts[0])
	}
	return api.Fault{}
}

// setLogic reads the name of the one logic that there is.
func (r *reader) setLogic(parts []api.Sexp) api.Fault {
	if !isSymbol(parts[0]) || parts[0].Tok.Text != "QF_LRA" {
		return told(api.ErrWord, parts[0])
	}
	return api.Fault{}
}

// declareConst declares an unknown.
func (r *reader) declareConst(parts []api.Sexp) api.Fault {
	name, fault := r.freeName(parts[0])
	if fault.Code != api.OK {
		return fault
	}
	return r.declare(name, parts[1])
}

// declareFun declares an unknown, that is over nothing.
func (r *reader) declareFun(parts []api.Sexp) api.Fault {
	name, fault := r.freeName(parts[0])
	if fault.Code != api.OK {
		return fault
	}
	if !parts[1].List || len(parts[1].Kids) > 0 {
		return told(api.ErrParen, parts[1])
	}
	return r.declare(name, parts[2])
}

// declare lets there be an unknown of a name and a sort.
func (r *reader) declare(name string, x api.Sexp) api.Fault {
	sort, fault := sortOf(x)
	if fault.Code != api.OK {
		return fault
	}
	number := r.terms.Grow(sort)
	r.unknowns[name] = unknown{sort: sort, number: number}
	r.counts[sort] = number + 1
	return api.Fault{}
}

// defineFun lets there be a macro.
func (r *reader) defineFun(parts []api.Sexp) api.Fault {
	name, fault := r.freeName(parts[0])
	if fault.Code != api.OK {
		return fault
	}
	params, fault := r.params(parts[1])
	if fault.Code != api.OK {
		return fault
	}
	sort, fault := sortOf(parts[2])
	if fault.Code != api.OK {
		return fault
	}
	m, fault := r.define(params, sort, parts[3])
	if fault.Code != api.OK {
		return fault
	}
	r.macros[name] = m
	return api.Fault{}
}

// assert reads a term that must be true.
func (r *reader) assert(parts []api.Sexp) api.Fault {
	s := &sheet{terms: r.terms}
	mark, fault := r.term(&scope{sheet: s}, parts[0])
	if fault.Code != api.OK {
		return fault
	}
	if s.sort(mark) != api.SortBool {
		return told(api.ErrSort, parts[0])
	}
	r.asserts = append(r.asserts, s.places[mark])
	return api.Fault{}
}

// check asks whether the formula can be true.
func (r *reader) check([]api.Sexp) api.Fault {
	r.checked = true
	return api.Fault{}
}

// model asks how the formula can be true.
func (r *reader) model([]api.Sexp) api.Fault {
	r.asked = true
	return api.Fault{}
}

// exit ends the text, whatever is behind it.
func (r *reader) exit([]api.Sexp) api.Fault {
	r.ended = true
	return api.Fault{}
}
