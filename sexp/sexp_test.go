package sexp_test

import (
	"math"
	"slices"
	"strings"
	"testing"

	"steelyard/api"
	"steelyard/sexp"
)

func TestP81Example(t *testing.T) {
	reads(t, tokens(t, "( x ( ) )"), list(0, leaf(api.TokSymbol, "x", 2), list(4)))
}

func TestP81Order(t *testing.T) {
	reads(t, tokens(t, "a (b :k) 1 (\"s\" (2.5 ()) c) |d e|"),
		leaf(api.TokSymbol, "a", 0),
		list(2, leaf(api.TokSymbol, "b", 3), leaf(api.TokKeyword, "k", 5)),
		leaf(api.TokNumeral, "1", 9),
		list(11, leaf(api.TokString, "s", 12), list(16, leaf(api.TokDecimal, "2.5", 17), list(21)), leaf(api.TokSymbol, "c", 25)),
		leaf(api.TokSymbol, "d e", 28))
	reads(t, tokens(t, "()()"), list(0), list(2))
	reads(t, tokens(t, "(()())"), list(0, list(1), list(3)))
	reads(t, tokens(t, "a"), leaf(api.TokSymbol, "a", 0))
	// A parenthesis in a symbol or a string is none.
	reads(t, tokens(t, "|(| \")\""), leaf(api.TokSymbol, "(", 0), leaf(api.TokString, ")", 4))
}

// Rule 3: a list without elements and a nil list are one.
func TestP81NoTokens(t *testing.T) {
	reads(t, nil)
	reads(t, []api.Token{})
}

// A token of any other kind is no parenthesis, and tokens are taken as they are.
func TestP81Kinds(t *testing.T) {
	for _, kind := range []int{math.MinInt, -1, 0, 3, 4, 5, 6, 7, 8, 9, 256 + api.TokOpen, math.MaxInt} {
		for _, s := range []string{"", "(", ")", "x", "\x00\xff"} {
			tok := token(kind, s, -7)
			reads(t, []api.Token{tok}, api.Sexp{Tok: tok})
			open, end := token(api.TokOpen, s, math.MinInt), token(api.TokClose, s, math.MaxInt)
			reads(t, []api.Token{open, tok, end, tok}, api.Sexp{List: true, Tok: open, Kids: []api.Sexp{{Tok: tok}}}, api.Sexp{Tok: tok})
		}
	}
}

func TestP81Close(t *testing.T) {
	fails(t, tokens(t, ")"), api.ErrParen, 0)
	fails(t, tokens(t, "  )("), api.ErrParen, 2)
	fails(t, tokens(t, "a b ) c )"), api.ErrParen, 4)
	fails(t, tokens(t, "(a (b)) c ) (("), api.ErrParen, 10)
	fails(t, tokens(t, "())"), api.ErrParen, 2)
	fails(t, []api.Token{token(api.TokClose, "", -5)}, api.ErrParen, -5)
}

// At the end the last one of those that aren't closed is told, not the last one of all.
func TestP81Open(t *testing.T) {
	fails(t, tokens(t, "("), api.ErrParen, 0)
	fails(t, tokens(t, "a (b (c"), api.ErrParen, 5)
	fails(t, tokens(t, "a (b (c) (d)"), api.ErrParen, 2)
	fails(t, tokens(t, "(a) (b (c (d) ) (e (f)"), api.ErrParen, 16)
	fails(t, tokens(t, "() (() ("), api.ErrParen, 7)
	fails(t, []api.Token{token(api.TokOpen, "", math.MinInt)}, api.ErrParen, math.MinInt)
}

func TestP81Deep(t *testing.T) {
	x := list(999)
	for at := 998; at >= 0; at-- {
		x = list(at, x)
	}
	reads(t, tokens(t, nested(1000)), x)
	fails(t, tokens(t, nested(1001)), api.ErrDeep, 1000)
	fails(t, tokens(t, "a "+nested(1002)), api.ErrDeep, 1002)
	// What is closed doesn't count; nor do tokens that are no parenthesis.
	open, end := strings.Repeat("(", 999), strings.Repeat(")", 999)
	wide := open + strings.Repeat("(x y)", 3000) + " z" + end
	if all, f := sexp.Read(tokens(t, wide)); f != (api.Fault{}) || len(all) != 1 || sexp.Deep(all[0]) != 1000 {
		t.Errorf("%d expressions and %v", len(all), f)
	}
	fails(t, tokens(t, open+"(x)((y))"+end), api.ErrDeep, 1003)
	reads(t, tokens(t, nested(1000)+" "+nested(1000)), x, shifted(x, 2001))
}

// shifted gives an expression with all tokens so many bytes further on.
func shifted(x api.Sexp, bytes int) api.Sexp {
	x.Tok.At += bytes
	kids := slices.Clone(x.Kids)
	for i := range kids {
		kids[i] = shifted(kids[i], bytes)
	}
	x.Kids = kids
	return x
}

// What is wrong is told token by token: the first one; and what isn't closed in the end only.
func TestP81First(t *testing.T) {
	open := strings.Repeat("(", 1000)
	fails(t, tokens(t, ")"+open+"("), api.ErrParen, 0)
	fails(t, tokens(t, open+"()"), api.ErrDeep, 1000)
	fails(t, tokens(t, open+"("+strings.Repeat(")", 1002)), api.ErrDeep, 1000)
	fails(t, tokens(t, open+strings.Repeat(")", 1001)+open+"("), api.ErrParen, 2000)
	fails(t, tokens(t, open+")"), api.ErrParen, 998)
	fails(t, tokens(t, open), api.ErrParen, 999)
	fails(t, tokens(t, "(( ) ) ) (("), api.ErrParen, 7)
}
