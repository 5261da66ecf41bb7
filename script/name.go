package script

import "steelyard/api"

// let is the symbol of lists that name terms.
const let = "let"

// unknown is an unknown's sort, and its number among those of that sort.
type unknown struct{ sort, number int }

// node gives a node that is the unknown.
func (u unknown) node() api.Node {
	if u.sort == api.SortBool {
		return api.Node{Op: api.OpBool, Var: u.number}
	}
	return api.Node{Op: api.OpReal, Var: u.number}
}

// words gives the operators of all words.
func words() map[string]int {
	return map[string]int{
		"true":     api.OpTrue,
		"false":    api.OpFalse,
		"not":      api.OpNot,
		"and":      api.OpAnd,
		"or":       api.OpOr,
		"xor":      api.OpXor,
		"=>":       api.OpImplies,
		"ite":      api.OpIte,
		"=":        api.OpEqual,
		"distinct": api.OpDistinct,
		"<":        api.OpLess,
		"<=":       api.OpAtMost,
		">":        api.OpGreater,
		">=":       api.OpAtLeast,
		"+":        api.OpAdd,
		"-":        api.OpSub,
		"*":        api.OpMul,
		"/":        api.OpDiv,
	}
}

// isConstant tells whether an operator's word stands alone.
func isConstant(op int) bool { return op == api.OpTrue || op == api.OpFalse }

// isSymbol tells whether an expression is a symbol.
func isSymbol(x api.Sexp) bool { return !x.List && x.Tok.Kind == api.TokSymbol }

// name reads a name.
func (r *reader) name(x api.Sexp) (string, api.Fault) {
	name := x.Tok.Text
	if _, ok := r.words[name]; ok || name == let || !isSymbol(x) {
		return "", told(api.ErrWord, x)
	}
	return name, api.Fault{}
}

// freeName reads a name that is neither an unknown's nor a macro's.
func (r *reader) freeName(x api.Sexp) (string, api.Fault) {
	name, fault := r.name(x)
	if fault.Code != api.OK {
		return "", fault
	}
	_, declared := r.unknowns[name]
	_, defined := r.macros[name]
	if declared || defined {
		return "", told(api.ErrTwice, x)
	}
	return name, api.Fault{}
}

// sortOf reads a sort.
func sortOf(x api.Sexp) (int, api.Fault) {
	if isSymbol(x) {
		switch x.Tok.Text {
		case "Bool":
			return api.SortBool, api.Fault{}
		case "Real":
			return api.SortReal, api.Fault{}
		}
	}
	return 0, told(api.ErrWord, x)
}
