package script

import "steelyard/api"

// term reads a term, and gives its mark on the scope's sheet.
func (r *reader) term(in *scope, x api.Sexp) (int, api.Fault) {
	switch {
	case x.List:
		return r.list(in, x)
	case x.Tok.Kind == api.TokNumeral || x.Tok.Kind == api.TokDecimal:
		return r.number(in, x)
	case isSymbol(x):
		return r.symbol(in, x)
	}
	return 0, told(api.ErrWord, x)
}

// termsOf reads terms, in order.
func (r *reader) termsOf(in *scope, list []api.Sexp) ([]int, api.Fault) {
	marks := make([]int, 0, len(list))
	for _, x := range list {
		mark, fault := r.term(in, x)
		if fault.Code != api.OK {
			return nil, fault
		}
		marks = append(marks, mark)
	}
	return marks, api.Fault{}
}

// node puts down the node that an expression is.
func (r *reader) node(in *scope, n api.Node, x api.Sexp) (int, api.Fault) {
	mark, code := in.sheet.take(step{node: n})
	return mark, told(code, x)
}

// number reads a numeral, or a decimal.
func (r *reader) number(in *scope, x api.Sexp) (int, api.Fault) {
	number, ok := decimal(r.bench, x.Tok.Text)
	if !ok {
		return 0, told(api.ErrOver, x)
	}
	return r.node(in, api.Node{Op: api.OpNumber, Number: number}, x)
}

// symbol reads a term that is a symbol.
func (r *reader) symbol(in *scope, x api.Sexp) (int, api.Fault) {
	name := x.Tok.Text
	if mark, ok := in.find(name); ok {
		return mark, api.Fault{}
	}
	if u, ok := r.unknowns[name]; ok {
		return r.node(in, u.node(), x)
	}
	if m, ok := r.macros[name]; ok && len(m.sorts) == 0 {
		return r.call(in, m, x, nil)
	}
	if op, ok := r.words[name]; ok && isConstant(op) {
		return r.node(in, api.Node{Op: op}, x)
	}
	return 0, told(api.ErrWord, x)
}

// list reads a term that is a list.
func (r *reader) list(in *scope, x api.Sexp) (int, api.Fault) {
	if len(x.Kids) == 0 {
		return 0, told(api.ErrParen, x)
	}
	head, parts := x.Kids[0], x.Kids[1:]
	if !isSymbol(head) {
		return 0, told(api.ErrParen, head)
	}
	name := head.Tok.Text
	if name == let {
		return r.let(in, x, parts)
	}
	if _, ok := in.find(name); ok {
		return 0, told(api.ErrWord, head)
	}
	if op, ok := r.words[name]; ok && !isConstant(op) {
		return r.operation(in, op, x, parts)
	}
	if m, ok := r.macros[name]; ok {
		return r.call(in, m, x, parts)
	}
	return 0, told(api.ErrWord, head)
}

// operation reads an operator over terms.
func (r *reader) operation(in *scope, op int, x api.Sexp, parts []api.Sexp) (int, api.Fault) {
	marks, fault := r.termsOf(in, parts)
	if fault.Code != api.OK {
		return 0, fault
	}
	return r.node(in, api.Node{Op: op, Kids: marks}, x)
}

// call reads a macro over terms.
func (r *reader) call(in *scope, m *macro, x api.Sexp, parts []api.Sexp) (int, api.Fault) {
	marks, fault := r.termsOf(in, parts)
	if fault.Code != api.OK {
		return 0, fault
	}
	if len(marks) != len(m.sorts) {
		return 0, told(api.ErrCount, x)
	}
	for i, mark := range marks {
		if in.sheet.sort(mark) != m.sorts[i] {
			return 0, told(api.ErrSort, parts[i])
		}
	}
	mark, code := in.sheet.call(m, marks)
	return mark, told(code, x)
}

// let reads a term within which names tell of other terms.
func (r *reader) let(in *scope, x api.Sexp, parts []api.Sexp) (int, api.Fault) {
	if len(parts) != 2 {
		return 0, told(api.ErrCount, x)
	}
	bindings, body := parts[0], parts[1]
	if len(bindings.Kids) == 0 {
		return 0, told(api.ErrParen, bindings)
	}
	inner := in.within()
	for _, binding := range bindings.Kids {
		if fault := r.bind(inner, binding); fault.Code != api.OK {
			return 0, fault
		}
	}
	return r.term(inner, body)
}

// bind reads a name of a scope, and its term, that is none of the scope's own.
func (r *reader) bind(inner *scope, x api.Sexp) api.Fault {
	if len(x.Kids) != 2 {
		return told(api.ErrParen, x)
	}
	name, fault := r.name(x.Kids[0])
	if fault.Code != api.OK {
		return fault
	}
	if _, twice := inner.marks[name]; twice {
		return told(api.ErrTwice, x.Kids[0])
	}
	mark, fault := r.term(inner.outer, x.Kids[1])
	if fault.Code != api.OK {
		return fault
	}
	inner.marks[name] = mark
	return api.Fault{}
}
