package sexp_test

import (
	"math/rand/v2"
	"reflect"
	"strings"
	"testing"

	"steelyard/api"
	"steelyard/lex"
	"steelyard/sexp"
)

// token gives a token.
func token(kind int, text string, at int) api.Token {
	return api.Token{Kind: kind, Text: text, At: at}
}

// tokens gives the tokens of a text.
func tokens(t *testing.T, text string) []api.Token {
	t.Helper()
	list, f := lex.Read([]byte(text))
	if f != (api.Fault{}) {
		t.Fatalf("%q has no tokens: %v", text, f)
	}
	return list
}

// leaf gives an expression that is a token.
func leaf(kind int, text string, at int) api.Sexp { return api.Sexp{Tok: token(kind, text, at)} }

// list gives an expression that is a list, with its ( at a byte.
func list(at int, kids ...api.Sexp) api.Sexp {
	return api.Sexp{List: true, Tok: token(api.TokOpen, "(", at), Kids: kids}
}

// nested gives the text of a list that is so deep.
func nested(deep int) string { return strings.Repeat("(", deep) + strings.Repeat(")", deep) }

// same tells whether two expressions are one; kids that aren't there are one, nil or not.
func same(x, y api.Sexp) bool {
	return x.List == y.List && x.Tok == y.Tok && sameAll(x.Kids, y.Kids)
}

// sameAll tells whether two lists of expressions are one.
func sameAll(x, y []api.Sexp) bool {
	if len(x) != len(y) {
		return false
	}
	for i := range x {
		if !same(x[i], y[i]) {
			return false
		}
	}
	return true
}

// reads tells an error, if tokens aren't read as these expressions.
func reads(t *testing.T, in []api.Token, want ...api.Sexp) {
	t.Helper()
	if got, f := sexp.Read(in); f != (api.Fault{}) || !sameAll(got, want) {
		t.Errorf("%v: %v and %v, not %v", in, got, f, want)
	}
}

// fails tells an error, if tokens aren't wrong so.
func fails(t *testing.T, in []api.Token, code api.Errno, at int) {
	t.Helper()
	got, f := sexp.Read(in)
	if f != (api.Fault{Code: code, At: at}) || len(got) != 0 {
		t.Errorf("%d tokens: %d expressions and %v, not %v at %d", len(in), len(got), f, code, at)
	}
}

// text tells an error, if an expression's text isn't that one.
func text(t *testing.T, x api.Sexp, want string) {
	t.Helper()
	if s, ok := sexp.Text(x); !ok || s != want {
		t.Errorf("%v: %q, %v; not %q", x, s, ok, want)
	}
}

// noText tells an error, if an expression has a text.
func noText(t *testing.T, x api.Sexp) {
	t.Helper()
	if s, ok := sexp.Text(x); ok || s != "" {
		t.Errorf("%q, %v: it has a text", s, ok)
	}
}

// someToken gives a token that isn't a parenthesis, and what it is in a text.
func someToken(r *rand.Rand) (api.Token, string) {
	at := r.IntN(2000) - 1000
	switch r.IntN(8) {
	case 0:
		return token(api.TokSymbol, "<=", at), "<="
	case 1:
		return token(api.TokSymbol, "a b;(\"1\n", at), "|a b;(\"1\n|"
	case 2:
		return token(api.TokSymbol, "", at), "||"
	case 3:
		return token(api.TokNumeral, "120", at), "120"
	case 4:
		return token(api.TokDecimal, "0.50", at), "0.50"
	case 5:
		return token(api.TokKeyword, "status", at), ":status"
	case 6:
		return token(api.TokString, "\"a\"\" |)\\", at), "\"\"\"a\"\"\"\" |)\\\""
	}
	return token(api.TokString, "", at), "\"\""
}

// someSexp gives an expression at most so deep, and its text.
func someSexp(r *rand.Rand, deep int) (api.Sexp, string) {
	if deep == 0 || r.IntN(3) == 0 {
		tok, s := someToken(r)
		return api.Sexp{Tok: tok}, s
	}
	x := list(r.IntN(2000) - 1000)
	var texts []string
	for range r.IntN(5) {
		kid, s := someSexp(r, deep-1)
		x.Kids = append(x.Kids, kid)
		texts = append(texts, s)
	}
	return x, "(" + strings.Join(texts, " ") + ")"
}

// placeless gives an expression with all its tokens at 0.
func placeless(x api.Sexp) api.Sexp {
	x.Tok.At = 0
	kids := make([]api.Sexp, len(x.Kids))
	for i := range kids {
		kids[i] = placeless(x.Kids[i])
	}
	x.Kids = kids
	return x
}

// flat gives the tokens of expressions, each ) at byte -1.
func flat(list []api.Sexp) []api.Token {
	var all []api.Token
	for _, x := range list {
		all = append(all, x.Tok)
		if x.List {
			all = append(all, flat(x.Kids)...)
			all = append(all, token(api.TokClose, ")", -1))
		}
	}
	return all
}

// kept gives the memory in which kids are kept, of all lists within expressions.
func kept(all []api.Sexp) []uintptr {
	list := []uintptr{reflect.ValueOf(all).Pointer()}
	for _, x := range all {
		if len(x.Kids) > 0 {
			list = append(list, kept(x.Kids)...)
		}
	}
	return list
}
