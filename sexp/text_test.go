package sexp_test

import (
	"math"
	"math/rand/v2"
	"strings"
	"testing"

	"steelyard/api"
	"steelyard/lex"
	"steelyard/sexp"
)

func TestP82Lists(t *testing.T) {
	text(t, list(0), "()")
	text(t, list(0, list(0)), "(())")
	text(t, list(9, leaf(api.TokSymbol, "x", -1), list(5)), "(x ())")
	text(t, list(0, list(0), list(0), list(0, leaf(api.TokNumeral, "0", 0))), "(() () (0))")
	text(t, list(0, leaf(api.TokSymbol, "", 0), leaf(api.TokString, "", 0), leaf(api.TokKeyword, "a", 0)), "(|| \"\" :a)")
	// A list is written with ( and ) whatever is told of its first token.
	text(t, api.Sexp{List: true}, "()")
	text(t, api.Sexp{List: true, Tok: token(api.TokOpen, "", 3), Kids: []api.Sexp{leaf(api.TokDecimal, "1.5", 0)}}, "(1.5)")
	// What is no list is its token alone.
	text(t, api.Sexp{Tok: token(api.TokSymbol, "a", 0), Kids: []api.Sexp{{}}}, "a")
}

func TestP82Symbol(t *testing.T) {
	for c := range 256 {
		for _, name := range []string{string([]byte{byte(c)}), "a" + string([]byte{byte(c)}), string([]byte{'1', byte(c), 'b'})} {
			want, ok := lex.Symbol(name)
			if x := leaf(api.TokSymbol, name, c); ok {
				text(t, x, want)
				text(t, list(0, x, x), "("+want+" "+want+")")
			} else {
				noText(t, x)
				noText(t, list(0, x))
			}
		}
	}
	text(t, leaf(api.TokSymbol, "x", 4), "x")
	text(t, leaf(api.TokSymbol, "", 4), "||")
	text(t, leaf(api.TokSymbol, "1.5", 4), "|1.5|")
	text(t, leaf(api.TokSymbol, "a b", 4), "|a b|")
	noText(t, leaf(api.TokSymbol, "a|b", 4))
	noText(t, leaf(api.TokSymbol, "|a|", 4))
	noText(t, leaf(api.TokSymbol, "a\\b", 4))
}

func TestP82Number(t *testing.T) {
	for _, s := range []string{"0", "7", "10", "123456789012345678901234567890"} {
		text(t, leaf(api.TokNumeral, s, 0), s)
		noText(t, leaf(api.TokDecimal, s, 0))
	}
	for _, s := range []string{"0.0", "1.50", "10.000", "12345678901234567890.1"} {
		text(t, leaf(api.TokDecimal, s, 0), s)
		noText(t, leaf(api.TokNumeral, s, 0))
	}
	for _, s := range []string{"", "01", "00.5", "-1", "1.", ".5", "1a", " 1", "1 ", "1;", "1\n", "1 1", "1(", "(1", "(1)", "1)", "|1|", "\"1\"", ":1", "x", "1e5", "1.5.5", "\x00", "é"} {
		noText(t, leaf(api.TokNumeral, s, 0))
		noText(t, leaf(api.TokDecimal, s, 0))
		noText(t, list(0, leaf(api.TokNumeral, "1", 0), leaf(api.TokNumeral, s, 0)))
	}
}

func TestP82Keyword(t *testing.T) {
	for _, s := range []string{"a", "status", "01", "-", "<=", ".5"} {
		text(t, leaf(api.TokKeyword, s, 0), ":"+s)
	}
	for _, s := range []string{"", " ", "a b", "a ", " a", ":a", "a:b", "a;", "a\n", "|a|", "a(", ")", "\"", "\x00", "\xff"} {
		noText(t, leaf(api.TokKeyword, s, 0))
	}
}

func TestP82String(t *testing.T) {
	text(t, leaf(api.TokString, "", 0), `""`)
	text(t, leaf(api.TokString, `"`, 0), `""""`)
	text(t, leaf(api.TokString, `x"y`, 0), `"x""y"`)
	text(t, leaf(api.TokString, `""a""`, 0), `"""""a"""""`)
	text(t, leaf(api.TokString, "|;(\\\n\t\r:", 0), "\"|;(\\\n\t\r:\"")
	for c := range 256 {
		s := "a" + string([]byte{byte(c)}) + "b"
		switch {
		case c == '"':
			text(t, leaf(api.TokString, s, 0), `"a""b"`)
		case c < 32 && c != 9 && c != 10 && c != 13, c > 126:
			noText(t, leaf(api.TokString, s, 0))
		default:
			text(t, leaf(api.TokString, s, 0), `"`+s+`"`)
		}
	}
}

// A parenthesis alone is no expression, and what is of no kind of layer 7's has no text.
func TestP82Kinds(t *testing.T) {
	for _, kind := range []int{math.MinInt, -1, 0, api.TokOpen, api.TokClose, 8, 9, math.MaxInt} {
		for _, s := range []string{"", "(", ")", "()", "x", "1", "\"a\""} {
			noText(t, leaf(kind, s, 0))
			noText(t, list(0, leaf(kind, s, 0)))
		}
	}
}

// Where one part has no text, wherever it stands, the whole has none.
func TestP82Parts(t *testing.T) {
	good, bad := leaf(api.TokSymbol, "x", 0), leaf(api.TokNumeral, "01", 0)
	noText(t, bad)
	for n := 1; n < 5; n++ {
		for i := range n {
			kids := make([]api.Sexp, n)
			for j := range kids {
				kids[j] = list(0, good)
			}
			text(t, list(0, kids...), "("+strings.Repeat("(x) ", n-1)+"(x))")
			kids[i] = list(0, good, bad)
			noText(t, list(0, kids...))
			kids[i] = bad
			noText(t, list(0, list(0, kids...), good))
		}
	}
}

// As deep as may be, and one deeper.
func TestP82Deep(t *testing.T) {
	for deep, s := range map[int]string{1: "()", 2: "(())", 999: nested(999), 1000: nested(1000)} {
		x := chain(deep)
		text(t, x, s)
		if d := sexp.Deep(x); d != deep {
			t.Errorf("%d deep, not %d", d, deep)
		}
		if deep < 1000 {
			text(t, list(0, chain(1), x), "(() "+s+")")
		}
	}
	for _, deep := range []int{1001, 1002, 3000} {
		noText(t, chain(deep))
		noText(t, list(0, chain(1), chain(deep-1), chain(2)))
		if d := sexp.Deep(list(0, chain(1), chain(deep-1), chain(2))); d != deep {
			t.Errorf("%d deep, not %d", d, deep)
		}
	}
}

// chain gives a list that is so deep, each with one kid.
func chain(deep int) api.Sexp {
	x := list(0)
	for range deep - 1 {
		x = list(0, x)
	}
	return x
}

func TestP82HowDeep(t *testing.T) {
	for s, want := range map[string]int{"a": 0, ":k": 0, "1": 0, "()": 1, "(a)": 1, "(a b (c))": 2, "((a) b)": 2, "(a () (b ((c) d)) (e))": 4, "(() (()) ((())))": 4, "(((())) (()) ())": 4, "(" + strings.Repeat("()", 5000) + ")": 2} {
		all, f := sexp.Read(tokens(t, s))
		if f != (api.Fault{}) || len(all) != 1 || sexp.Deep(all[0]) != want {
			t.Errorf("%s: not %d deep", s, want)
		}
	}
	if sexp.Deep(api.Sexp{}) != 0 || sexp.Deep(api.Sexp{List: true}) != 1 || sexp.Deep(api.Sexp{List: true, Kids: []api.Sexp{}}) != 1 {
		t.Error("zero values aren't 0 and 1 deep")
	}
	// What is no list is a token, whatever else is told of it.
	if d := sexp.Deep(api.Sexp{Tok: token(api.TokOpen, "(", 0), Kids: []api.Sexp{chain(3)}}); d != 0 {
		t.Errorf("a token is %d deep", d)
	}
}

// P8.2 and P8.3, of expressions made by chance.
func TestP83(t *testing.T) {
	r := rand.New(rand.NewPCG(8, 3))
	for range 20000 {
		x, s := someSexp(r, r.IntN(7))
		text(t, x, s)
		all, f := sexp.Read(tokens(t, s))
		if f != (api.Fault{}) || len(all) != 1 || !same(placeless(all[0]), placeless(x)) {
			t.Fatalf("%s is read as %v, %v", s, all, f)
		}
		if sexp.Deep(all[0]) != sexp.Deep(x) {
			t.Fatalf("%s: %d and %d deep", s, sexp.Deep(all[0]), sexp.Deep(x))
		}
	}
}

// What is read of a text has a text, which is read as it.
func TestP83Texts(t *testing.T) {
	for _, s := range []string{"( x ( ) )", "(a(b)c)\n; d\n", "|x| (|1| ||)", "(\"\"\"\"\"\")", "(assert (< x 1.5))", "(set-info :status unsat)", "(|a b|\"c\":d 0 0.0)", "1 2(3)4"} {
		all, _ := sexp.Read(tokens(t, s))
		var texts []string
		for _, x := range all {
			part, ok := sexp.Text(x)
			if !ok {
				t.Errorf("%s: %v has no text", s, x)
			}
			texts = append(texts, part)
		}
		again, f := sexp.Read(tokens(t, strings.Join(texts, " ")))
		if f != (api.Fault{}) || !same(placeless(list(0, again...)), placeless(list(0, all...))) {
			t.Errorf("%s is read as %v, %v", s, again, f)
		}
	}
}
