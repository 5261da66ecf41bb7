package script_test

import (
	"reflect"
	"slices"
	"strconv"
	"strings"
	"testing"

	"steelyard/api"
	"steelyard/ratio"
	"steelyard/script"
)

// head declares two unknowns of each sort.
const head = "(declare-const p Bool)(declare-const q Bool)(declare-const x Real)(declare-const y Real)"

// allWords are all words, by the operators from 1 on.
var allWords = strings.Fields("true false not and or xor => ite = distinct < <= > >= + - * /")

// wordOf gives the word of an operator.
func wordOf(op int) string {
	if op <= api.OpFalse {
		return allWords[op-1]
	}
	return allWords[op-4]
}

// show gives a script's nodes, each as its word over places, and behind a | which are asserted.
func show(s api.Script) string {
	var list []string
	for _, n := range s.Nodes {
		switch n.Op {
		case api.OpBool:
			list = append(list, s.Bools[n.Var])
		case api.OpReal:
			list = append(list, s.Reals[n.Var])
		case api.OpNumber:
			list = append(list, ratio.Text(n.Number))
		default:
			text := wordOf(n.Op)
			for _, kid := range n.Kids {
				text += " " + strconv.Itoa(kid)
			}
			list = append(list, "("+text+")")
		}
	}
	list = append(list, "|")
	for _, at := range s.Asserts {
		list = append(list, strconv.Itoa(at))
	}
	return strings.Join(list, " ")
}

// same tells whether two scripts are one; lists that aren't there are one, nil or not.
func same(s, other api.Script) bool {
	sameNode := func(n, m api.Node) bool {
		return n.Op == m.Op && n.Var == m.Var && slices.Equal(n.Kids, m.Kids) && n.Number.Num.Neg == m.Number.Num.Neg &&
			slices.Equal(n.Number.Num.Mag, m.Number.Num.Mag) && slices.Equal(n.Number.Den, m.Number.Den)
	}
	return slices.Equal(s.Bools, other.Bools) && slices.Equal(s.Reals, other.Reals) && slices.EqualFunc(s.Nodes, other.Nodes, sameNode) &&
		slices.Equal(s.Asserts, other.Asserts) && s.Check == other.Check && s.Model == other.Model
}

// short gives a text, without its middle, if it is long.
func short(text string) string {
	if len(text) > 400 {
		return text[:200] + " .. " + text[len(text)-200:]
	}
	return text
}

// read gives the script of a text, that must have no fault, and be right.
func read(t *testing.T, text string, limbs int) api.Script {
	t.Helper()
	s, f := script.Read([]byte(text), limbs)
	if f != (api.Fault{}) {
		t.Errorf("%s: %v", short(text), f)
	}
	if !script.Right(s) {
		t.Errorf("%s: what is read isn't right", short(text))
	}
	return s
}

// reads tells an error, if a text behind the head hasn't these nodes and asserts.
func reads(t *testing.T, text, want string) {
	t.Helper()
	if got := show(read(t, head+text, 2)); got != want {
		t.Errorf("%s: %s, not %s", text, got, want)
	}
}

// faulty tells an error, if a text hasn't a fault, or anything beside it.
func faulty(t *testing.T, text string, limbs int, want api.Fault) {
	t.Helper()
	if s, f := script.Read([]byte(text), limbs); f != want || !reflect.ValueOf(s).IsZero() {
		t.Errorf("%s: %v and %s, not %v", short(text), f, short(show(s)), want)
	}
}

// fails tells an error, if a text behind the head isn't wrong so, where a # stands in it.
func fails(t *testing.T, code api.Errno, marked string) {
	t.Helper()
	at := strings.Index(marked, "#")
	if at < 0 {
		t.Fatalf("%s: no #", marked)
	}
	faulty(t, head+marked[:at]+marked[at+1:], 2, api.Fault{Code: code, At: len(head) + at})
}

// failsAll tells an error, if a text of some behind the head isn't wrong so, where a # stands in it.
func failsAll(t *testing.T, code api.Errno, marked ...string) {
	t.Helper()
	for _, text := range marked {
		fails(t, code, text)
	}
}
