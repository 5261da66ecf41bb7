package script_test

import (
	"strconv"
	"strings"
	"testing"

	"steelyard/api"
)

// doubles gives macros of which the one numbered i has 2^(i+1) - 1 nodes.
func doubles(most int) string {
	text := "(declare-const p Bool)(declare-const x Real)(define-fun f0 () Bool p)"
	for i := 1; i <= most; i++ {
		ahead := "f" + strconv.Itoa(i-1)
		text += "(define-fun f" + strconv.Itoa(i) + " () Bool (and " + ahead + " " + ahead + "))"
	}
	return text
}

// calls gives, between two texts each, the names of macros with so many nodes in all.
func calls(nodes int, open, shut string) string {
	text := ""
	for i := 13; i >= 0; i-- {
		size := 1<<(i+1) - 1
		text += strings.Repeat(open+"f"+strconv.Itoa(i)+shut, nodes/size)
		nodes %= size
	}
	return text
}

// filler gives a text of unknowns, macros, and asserts with so many nodes in all.
func filler(nodes int) string { return doubles(13) + calls(nodes, "(assert ", ")") }

// spaceless tells an error, if behind so many nodes as may be but some a text doesn't lack room where a # stands in it.
func spaceless(t *testing.T, but int, marked string) {
	t.Helper()
	text, at := filler(api.MaxNodes-but), strings.Index(marked, "#")
	faulty(t, text+marked[:at]+marked[at+1:], 1, api.Fault{Code: api.ErrSpace, At: len(text) + at})
}

// As many nodes as may be are read; of one more the place is told.
func TestP111Space(t *testing.T) {
	if s := read(t, filler(api.MaxNodes-2)+"(assert (let ((a p)) (not a)))(check-sat)", 1); len(s.Nodes) != api.MaxNodes || s.Asserts[len(s.Asserts)-1] != api.MaxNodes-1 {
		t.Errorf("%d nodes", len(s.Nodes))
	}
	spaceless(t, 0, "(assert #p)")
	spaceless(t, 0, "(assert (< #x 1))")
	spaceless(t, 0, "(assert (and #true what))")
	spaceless(t, 1, "(assert (let ((a p) (b #false)) a))")
	spaceless(t, 1, "(assert (< x #1.5))")
	spaceless(t, 2, "(assert #(< x 1.5))")
	spaceless(t, 1, "(assert (let ((a p)) (or #(and a a) what)))")
}

// Of a macro's nodes the place is that of the call.
func TestP111SpaceOfMacros(t *testing.T) {
	define := "(define-fun g ((a Bool)) Bool (and a p p))(define-fun h ((a Bool)) Bool (or (g a) (g p)))"
	spaceless(t, 0, "(assert #f0)")
	spaceless(t, 2, "(assert (not #f1))")
	spaceless(t, 2, "(assert (not #(f1)))")
	spaceless(t, 100, "(assert (or p #f13 what))")
	spaceless(t, 3, define+"(assert #(g p))")
	spaceless(t, 3, define+"(assert (let ((b p)) #(g (not b))))")
	spaceless(t, 3, define+"(assert (g #(and p p p)))")
	spaceless(t, 8, define+"(assert #(h p))")
	read(t, filler(api.MaxNodes-4)+define+"(assert (g p))", 1)
	read(t, filler(api.MaxNodes-9)+define+"(assert (h p))", 1)
}

// The nodes of a macro's term as it is defined are none of the script's; that term may have as many for itself.
func TestP111SpaceOfDefinitions(t *testing.T) {
	read(t, filler(api.MaxNodes)+"(define-fun g ((a Bool)) Bool (and a f13 f13 p))(define-fun h () Bool (or (g p) p))(check-sat)", 1)
	text := doubles(13) + "(define-fun g () Bool (or " + calls(api.MaxNodes-2, "", " ")
	if s := read(t, text+"p))(assert g)", 1); len(s.Nodes) != api.MaxNodes {
		t.Errorf("%d nodes", len(s.Nodes))
	}
	faulty(t, doubles(13)+"(define-fun g () Bool "+text[strings.Index(text, "(or "):]+"p p))", 1, api.Fault{Code: api.ErrSpace, At: strings.Index(text, "(or ")})
	for _, marked := range []string{"p #f1))", "p p #(f1) what))", "p (and p #p) what))", "p p #p what))", "p (let ((a p)) #(not a))))"} {
		ahead, behind, _ := strings.Cut(marked, "#")
		faulty(t, text+ahead+behind, 1, api.Fault{Code: api.ErrSpace, At: len(text + ahead)})
	}
}

// Macros that double at each step end in a fault.
func TestP111Doubling(t *testing.T) {
	text := doubles(60)
	faulty(t, text, 1, api.Fault{Code: api.ErrSpace, At: strings.Index(text, "(and f19") + len("(and f19 ")})
}
