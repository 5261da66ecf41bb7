package script_test

import (
	"math/rand/v2"
	"slices"
	"strings"
	"testing"

	"steelyard/api"
	"steelyard/lex"
	"steelyard/script"
	"steelyard/sexp"
)

// writer writes texts by chance, of few names, so that these come together.
type writer struct {
	r              *rand.Rand
	truths, values []string // names that tell of a term
	calls          map[string]call
	names          []string // all that are taken
}

// call is a macro with parameters.
type call struct {
	truth  bool
	params []bool // which of them are truths
}

// pick gives one of a list.
func pick[T any](r *rand.Rand, list []T) T { return list[r.IntN(len(list))] }

// some gives so many terms or more, each a truth or not.
func (w *writer) some(least, deep int, truth bool) string {
	var list []string
	for range least + w.r.IntN(2) {
		list = append(list, w.term(deep, truth))
	}
	return strings.Join(list, " ")
}

// term gives a term, that is a truth or not.
func (w *writer) term(deep int, truth bool) string {
	if deep == 0 {
		return w.symbol(truth)
	}
	switch w.r.IntN(10) {
	case 0:
		return w.let(deep-1, truth)
	case 1, 2:
		if text := w.call(deep-1, truth); text != "" {
			return text
		}
	case 3, 4:
		return w.symbol(truth)
	}
	if truth {
		return w.truth(deep - 1)
	}
	return w.value(deep - 1)
}

// symbol gives a term that is a symbol, or a number.
func (w *writer) symbol(truth bool) string {
	names, others := w.values, []string{"0", "1", "2.5", "10", "0.125", "4294967295"}
	if truth {
		names, others = w.truths, []string{"true", "false"}
	}
	switch {
	case len(names) > 0 && w.r.IntN(4) > 0:
		return pick(w.r, names)
	case !truth && w.r.IntN(100) == 0:
		return pick(w.r, []string{"4294967296", "0.00000000001", "18446744073709551616"})
	}
	return pick(w.r, others)
}

// truth gives an operator over terms that is a truth.
func (w *writer) truth(deep int) string {
	word := pick(w.r, allWords[2:14])
	sort := w.r.IntN(2) == 0
	switch {
	case word == "not":
		return "(not " + w.term(deep, true) + ")"
	case word == "ite":
		return "(ite " + w.term(deep, true) + " " + w.term(deep, true) + " " + w.term(deep, true) + ")"
	case word == "=" || word == "distinct":
		return "(" + word + " " + w.some(2, deep, sort) + ")"
	case slices.Index(allWords, word) >= 10:
		return "(" + word + " " + w.some(2, deep, false) + ")"
	}
	return "(" + word + " " + w.some(2, deep, true) + ")"
}

// value gives an operator over terms that is a number.
func (w *writer) value(deep int) string {
	constant := pick(w.r, []string{"2", "(- 3)", "0.5", "(+ 1 (* 2 3))", "(/ 1 3)"})
	if w.r.IntN(60) == 0 {
		constant = w.term(deep, false)
	}
	switch w.r.IntN(6) {
	case 0:
		return "(ite " + w.term(deep, true) + " " + w.term(deep, false) + " " + w.term(deep, false) + ")"
	case 1:
		return "(* " + constant + " " + w.term(deep, false) + ")"
	case 2:
		return "(/ " + w.term(deep, false) + " " + constant + ")"
	case 3:
		return "(- " + w.some(1, deep, false) + ")"
	}
	return "(+ " + w.some(2, deep, false) + ")"
}

// call gives a macro over terms; nothing, if there is none that is such.
func (w *writer) call(deep int, truth bool) string {
	var names []string
	for name, c := range w.calls {
		if c.truth == truth {
			names = append(names, name)
		}
	}
	if len(names) == 0 {
		return ""
	}
	slices.Sort(names)
	name := pick(w.r, names)
	text := "(" + name
	for _, param := range w.calls[name].params {
		text += " " + w.term(deep, param)
	}
	return text + ")"
}

// name gives one of few names.
func (w *writer) name() string {
	return pick(w.r, []string{"a", "b", "c", "d", "e", "f", "g", "|h i|"})
}

// within gives what is written by a writer that has some names more.
func (w *writer) within(names []string, truths []bool, write func(inner *writer) string) string {
	inner := &writer{r: w.r, calls: map[string]call{}}
	hidden := func(name string) bool { return slices.Contains(names, name) }
	inner.truths, inner.values = slices.DeleteFunc(slices.Clone(w.truths), hidden), slices.DeleteFunc(slices.Clone(w.values), hidden)
	for name, c := range w.calls {
		if !hidden(name) {
			inner.calls[name] = c
		}
	}
	for i, name := range names {
		if truths[i] {
			inner.truths = append(inner.truths, name)
		} else {
			inner.values = append(inner.values, name)
		}
	}
	return write(inner)
}

// let gives a let.
func (w *writer) let(deep int, truth bool) string {
	var names []string
	var truths []bool
	text := "(let ("
	for len(names) == 0 || w.r.IntN(2) == 0 {
		name, sort := w.name(), w.r.IntN(2) == 0
		if slices.Contains(names, name) && w.r.IntN(60) > 0 {
			continue
		}
		names, truths = append(names, name), append(truths, sort)
		text += "(" + name + " " + w.term(deep, sort) + ")"
	}
	return text + ") " + w.within(names, truths, func(inner *writer) string { return inner.term(deep, truth) }) + ")"
}

// sortText gives a sort.
func sortText(truth bool) string {
	if truth {
		return "Bool"
	}
	return "Real"
}

// fresh gives a name that isn't taken, and takes it; false, if it was.
func (w *writer) fresh() (string, bool) {
	name := w.name()
	if slices.Contains(w.names, name) && w.r.IntN(60) > 0 {
		return "", false
	}
	w.names = append(w.names, name)
	return name, true
}

// command gives a command; nothing, if its name is taken.
func (w *writer) command() string {
	sort := w.r.IntN(2) == 0
	kind := w.r.IntN(6)
	if kind >= 4 {
		return "(assert " + w.term(3, true) + ")"
	}
	name, ok := w.fresh()
	if !ok {
		return ""
	}
	if kind < 2 {
		if sort {
			w.truths = append(w.truths, name)
		} else {
			w.values = append(w.values, name)
		}
		return pick(w.r, []string{"(declare-const " + name + " ", "(declare-fun " + name + " () "}) + sortText(sort) + ")"
	}
	return w.define(name, sort)
}

// define gives a macro.
func (w *writer) define(name string, truth bool) string {
	var names []string
	var truths []bool
	text := "(define-fun " + name + " ("
	for range w.r.IntN(4) {
		param := w.name()
		if slices.Contains(names, param) && w.r.IntN(20) > 0 {
			continue
		}
		names, truths = append(names, param), append(truths, w.r.IntN(2) == 0)
		text += "(" + param + " " + sortText(truths[len(truths)-1]) + ")"
	}
	text += ") " + sortText(truth) + " " + w.within(names, truths, func(inner *writer) string { return inner.term(2, truth) }) + ")"
	w.calls[name] = call{truth, truths}
	if len(names) == 0 && truth {
		w.truths = append(w.truths, name)
	} else if len(names) == 0 {
		w.values = append(w.values, name)
	}
	return text
}

// text gives a text.
func (w *writer) text() string {
	var text strings.Builder
	text.WriteString(pick(w.r, []string{"", "(set-logic QF_LRA)", "(set-info :a b)(set-logic QF_LRA)(set-option :c)"}))
	for range 1 + w.r.IntN(14) {
		text.WriteString(w.command() + pick(w.r, []string{"", " ", "\n", "; so\n"}))
	}
	text.WriteString(pick(w.r, []string{"", "(check-sat)", "(check-sat)(get-model)", "(check-sat)(get-model)(set-info :a)(get-model)(exit)()", "(exit)(check-sat)"}))
	return text.String()
}

// parts gives all expressions of some, within each other too.
func parts(list []api.Sexp) []*api.Sexp {
	var all []*api.Sexp
	for i := range list {
		all = append(append(all, &list[i]), parts(list[i].Kids)...)
	}
	return all
}

// copied gives an expression in memory of its own.
func copied(x api.Sexp) api.Sexp {
	x.Kids = slices.Clone(x.Kids)
	for i, kid := range x.Kids {
		x.Kids[i] = copied(kid)
	}
	return x
}

// spelled gives the text of expressions, of such tokens as a writer writes.
func spelled(list []api.Sexp) string {
	var text strings.Builder
	for _, x := range list {
		switch {
		case x.List:
			text.WriteString("(" + spelled(x.Kids) + ")")
		case strings.Contains(x.Tok.Text, " "):
			text.WriteString("|" + x.Tok.Text + "|")
		case x.Tok.Kind == api.TokKeyword:
			text.WriteString(":" + x.Tok.Text + " ")
		default:
			text.WriteString(x.Tok.Text + " ")
		}
	}
	return text.String()
}

// spoil changes a text somewhere: a part of it goes, is there twice, is another one, or is within a list; or commands change places.
func spoil(r *rand.Rand, text string) string {
	tokens, _ := lex.Read([]byte(text))
	list, _ := sexp.Read(tokens)
	for range 1 + r.IntN(2) {
		all := parts(list)
		if len(all) == 0 {
			break
		}
		x, y := pick(r, all), copied(*pick(r, all))
		switch r.IntN(6) {
		case 0:
			*x = y
		case 1:
			if len(x.Kids) > 0 {
				i := r.IntN(len(x.Kids))
				x.Kids = slices.Delete(x.Kids, i, i+1)
			}
		case 2:
			if x.List {
				x.Kids = slices.Insert(x.Kids, r.IntN(len(x.Kids)+1), y)
			}
		case 3:
			i, j := r.IntN(len(list)), r.IntN(len(list))
			list[i], list[j] = list[j], list[i]
		case 4:
			words := append([]string{"let", "Real", "Bool", "a", "b", "exit", "check-sat", "assert", "declare-const"}, allWords...)
			*x = api.Sexp{Tok: api.Token{Kind: api.TokSymbol, Text: pick(r, words)}}
		default:
			*x = api.Sexp{List: true, Kids: []api.Sexp{*x}}
		}
	}
	return spelled(list)
}

// What is read of texts made by chance is what the document's words tell, right or wrong.
func TestP111ByChance(t *testing.T) {
	r := rand.New(rand.NewPCG(11, 1))
	seen := map[api.Errno]int{}
	nodes := 0
	for range 20_000 {
		text := (&writer{r: r, calls: map[string]call{}}).text()
		if r.IntN(3) > 0 {
			text = spoil(r, text)
		}
		limbs := r.IntN(3)
		want, fault := readBy(text, limbs)
		got, f := script.Read([]byte(text), limbs)
		if f != fault || !same(got, want) {
			t.Fatalf("%s: %s and %v, not %s and %v", text, show(got), f, show(want), fault)
		}
		if f.Code == api.OK && !script.Right(got) {
			t.Fatalf("%s: not right", text)
		}
		seen[f.Code]++
		nodes += len(got.Nodes)
	}
	for _, code := range []api.Errno{api.OK, api.ErrOver, api.ErrParen, api.ErrWord, api.ErrTwice, api.ErrSort, api.ErrCount, api.ErrLine, api.ErrOrder} {
		if seen[code] < 100 {
			t.Errorf("%v came only %d times", code, seen[code])
		}
	}
	if nodes < 200_000 {
		t.Errorf("only %d nodes", nodes)
	}
	t.Log(seen, nodes)
}
