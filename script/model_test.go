package script_test

import (
	"slices"

	"steelyard/api"
	"steelyard/lex"
	"steelyard/nat"
	"steelyard/ratio"
	"steelyard/sexp"
	"steelyard/term"
)

// model reads a text by the words of the document, each macro's term anew; it panics with the first fault.
type model struct {
	limbs  int
	names  map[string]api.Node // unknowns
	macros map[string]modelMacro
	s      api.Script
	nodes  *term.Terms
}

// modelMacro is a macro: its parameters, and its term.
type modelMacro struct {
	params []string
	sorts  []int
	term   api.Sexp
}

// env is a name, the innermost one first, and what it tells of.
type env struct {
	name  string
	at    int
	outer *env
}

// readBy gives what the model tells of a text.
func readBy(text string, limbs int) (s api.Script, f api.Fault) {
	defer func() {
		if r := recover(); r != nil {
			s, f = api.Script{}, r.(api.Fault)
		}
	}()
	tokens, f := lex.Read([]byte(text))
	must(f.Code == api.OK, f.Code, f.At)
	list, f := sexp.Read(tokens)
	must(f.Code == api.OK, f.Code, f.At)
	m := &model{limbs: limbs, names: map[string]api.Node{}, macros: map[string]modelMacro{}, nodes: term.New(0, 0)}
	ahead := []string{}
	for _, x := range list {
		name := m.command(x, ahead)
		if name == "exit" {
			break
		}
		ahead = append(ahead, name)
	}
	m.s.Nodes = m.nodes.Nodes()
	return m.s, api.Fault{}
}

// must panics with a fault, unless something is so.
func must(is bool, code api.Errno, at int) {
	if !is {
		panic(api.Fault{Code: code, At: at})
	}
}

// symbolOf gives the text of a symbol; false of others.
func symbolOf(x api.Sexp) (string, bool) {
	return x.Tok.Text, !x.List && x.Tok.Kind == api.TokSymbol
}

// command reads a command behind others, and gives its name.
func (m *model) command(x api.Sexp, ahead []string) string {
	must(x.List && len(x.Kids) > 0, api.ErrParen, x.Tok.At)
	name, ok := symbolOf(x.Kids[0])
	must(ok, api.ErrParen, x.Tok.At)
	kids := x.Kids[1:]
	counts := map[string][2]int{"set-logic": {1, 1}, "set-option": {1, 1 << 40}, "set-info": {1, 1 << 40}, "declare-const": {2, 2}, "declare-fun": {3, 3}, "define-fun": {4, 4}, "assert": {1, 1}, "check-sat": {}, "get-model": {}, "exit": {}}
	count, ok := counts[name]
	must(ok, api.ErrWord, x.Kids[0].Tok.At)
	checked := slices.Contains(ahead, "check-sat")
	switch name {
	case "set-logic":
		for _, other := range ahead {
			must(other == "set-option" || other == "set-info", api.ErrOrder, x.Tok.At)
		}
	case "get-model":
		must(checked, api.ErrOrder, x.Tok.At)
	case "declare-const", "declare-fun", "define-fun", "assert", "check-sat":
		must(!checked, api.ErrOrder, x.Tok.At)
	}
	must(len(kids) >= count[0] && len(kids) <= count[1], api.ErrCount, x.Tok.At)
	switch name {
	case "set-logic":
		text, ok := symbolOf(kids[0])
		must(ok && text == "QF_LRA", api.ErrWord, kids[0].Tok.At)
	case "set-option", "set-info":
		must(kids[0].Tok.Kind == api.TokKeyword, api.ErrWord, kids[0].Tok.At)
	case "declare-const":
		m.declare(m.fresh(kids[0]), m.sort(kids[1]))
	case "declare-fun":
		n := m.fresh(kids[0])
		must(kids[1].List && len(kids[1].Kids) == 0, api.ErrParen, kids[1].Tok.At)
		m.declare(n, m.sort(kids[2]))
	case "define-fun":
		m.define(kids)
	case "assert":
		at := m.read(kids[0], nil, m.nodes)
		must(m.nodes.Sort(at) == api.SortBool, api.ErrSort, kids[0].Tok.At)
		m.s.Asserts = append(m.s.Asserts, at)
	case "check-sat":
		m.s.Check = true
	case "get-model":
		m.s.Model = true
	}
	return name
}

// name reads a name.
func (m *model) name(x api.Sexp) string {
	name, ok := symbolOf(x)
	must(ok && name != "let" && !slices.Contains(allWords, name), api.ErrWord, x.Tok.At)
	return name
}

// fresh reads a name that isn't there yet.
func (m *model) fresh(x api.Sexp) string {
	name := m.name(x)
	_, declared := m.names[name]
	_, defined := m.macros[name]
	must(!declared && !defined, api.ErrTwice, x.Tok.At)
	return name
}

// sort reads a sort.
func (m *model) sort(x api.Sexp) int {
	name, ok := symbolOf(x)
	must(ok && (name == "Bool" || name == "Real"), api.ErrWord, x.Tok.At)
	if name == "Bool" {
		return api.SortBool
	}
	return api.SortReal
}

// declare declares an unknown.
func (m *model) declare(name string, sort int) {
	v := m.nodes.Grow(sort)
	if sort == api.SortBool {
		m.s.Bools = append(m.s.Bools, name)
		m.names[name] = api.Node{Op: api.OpBool, Var: v}
		return
	}
	m.s.Reals = append(m.s.Reals, name)
	m.names[name] = api.Node{Op: api.OpReal, Var: v}
}

// define defines a macro.
func (m *model) define(kids []api.Sexp) {
	name, list := m.fresh(kids[0]), kids[1]
	must(list.List, api.ErrParen, list.Tok.At)
	macro := modelMacro{term: kids[3]}
	t := term.New(len(m.s.Bools), len(m.s.Reals))
	var in *env
	for _, p := range list.Kids {
		must(p.List && len(p.Kids) == 2, api.ErrParen, p.Tok.At)
		param, sort := m.name(p.Kids[0]), m.sort(p.Kids[1])
		must(!slices.Contains(macro.params, param), api.ErrTwice, p.Kids[0].Tok.At)
		macro.params, macro.sorts = append(macro.params, param), append(macro.sorts, sort)
		op := api.OpReal
		if sort == api.SortBool {
			op = api.OpBool
		}
		at, _ := t.Add(api.Node{Op: op, Var: t.Grow(sort)})
		in = &env{param, at, in}
	}
	sort := m.sort(kids[2])
	at := m.read(kids[3], in, t)
	must(t.Sort(at) == sort, api.ErrSort, kids[3].Tok.At)
	m.macros[name] = macro
}

// add adds a node.
func (m *model) add(n api.Node, x api.Sexp, t *term.Terms) int {
	at, code := t.Add(n)
	must(code == api.OK, code, x.Tok.At)
	return at
}

// read reads a term.
func (m *model) read(x api.Sexp, in *env, t *term.Terms) int {
	if x.List {
		return m.list(x, in, t)
	}
	if x.Tok.Kind == api.TokNumeral || x.Tok.Kind == api.TokDecimal {
		number, ok := ratio.Decimal(nat.New(m.limbs), x.Tok.Text)
		must(ok, api.ErrOver, x.Tok.At)
		return m.add(api.Node{Op: api.OpNumber, Number: number}, x, t)
	}
	name, ok := symbolOf(x)
	must(ok, api.ErrWord, x.Tok.At)
	if at, ok := in.find(name); ok {
		return at
	}
	if n, ok := m.names[name]; ok {
		return m.add(n, x, t)
	}
	if macro, ok := m.macros[name]; ok && len(macro.params) == 0 {
		return m.call(macro, nil, x, t)
	}
	must(name == "true" || name == "false", api.ErrWord, x.Tok.At)
	return m.add(api.Node{Op: 1 + slices.Index(allWords, name)}, x, t)
}

// find gives what a name tells of.
func (e *env) find(name string) (int, bool) {
	for ; e != nil; e = e.outer {
		if e.name == name {
			return e.at, true
		}
	}
	return 0, false
}

// call reads a macro's term anew.
func (m *model) call(macro modelMacro, args []int, x api.Sexp, t *term.Terms) int {
	defer func() {
		if r := recover(); r != nil {
			panic(api.Fault{Code: r.(api.Fault).Code, At: x.Tok.At})
		}
	}()
	var in *env
	for i, name := range macro.params {
		in = &env{name, args[i], in}
	}
	return m.read(macro.term, in, t)
}

// list reads a term that is a list.
func (m *model) list(x api.Sexp, in *env, t *term.Terms) int {
	must(len(x.Kids) > 0, api.ErrParen, x.Tok.At)
	name, ok := symbolOf(x.Kids[0])
	must(ok, api.ErrParen, x.Kids[0].Tok.At)
	if name == "let" {
		return m.let(x, in, t)
	}
	_, named := in.find(name)
	op := slices.Index(allWords, name)
	macro, called := m.macros[name]
	must(!named && (op > 1 || called), api.ErrWord, x.Kids[0].Tok.At)
	var args []int
	for _, kid := range x.Kids[1:] {
		args = append(args, m.read(kid, in, t))
	}
	if op > 1 {
		return m.add(api.Node{Op: op + 4, Kids: args}, x, t)
	}
	must(len(args) == len(macro.params), api.ErrCount, x.Tok.At)
	for i, at := range args {
		must(t.Sort(at) == macro.sorts[i], api.ErrSort, x.Kids[i+1].Tok.At)
	}
	return m.call(macro, args, x, t)
}

// let reads a let.
func (m *model) let(x api.Sexp, in *env, t *term.Terms) int {
	must(len(x.Kids) == 3, api.ErrCount, x.Tok.At)
	list := x.Kids[1]
	must(list.List && len(list.Kids) > 0, api.ErrParen, list.Tok.At)
	inner := in
	var names []string
	for _, b := range list.Kids {
		must(b.List && len(b.Kids) == 2, api.ErrParen, b.Tok.At)
		name := m.name(b.Kids[0])
		must(!slices.Contains(names, name), api.ErrTwice, b.Kids[0].Tok.At)
		names = append(names, name)
		inner = &env{name, m.read(b.Kids[1], in, t), inner}
	}
	return m.read(x.Kids[2], inner, t)
}
