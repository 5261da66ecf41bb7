package sexp_test

import (
	"math/rand/v2"
	"slices"
	"testing"

	"steelyard/api"
	"steelyard/sexp"
)

// Rule 4: what is handed in isn't changed, and isn't kept.
func TestHandedIn(t *testing.T) {
	want := tokens(t, "(a (b c) \"d\") 1")
	in := make([]api.Token, len(want), 50)
	copy(in, want)
	all, _ := sexp.Read(in)
	if !slices.Equal(in, want) || !slices.Equal(in[:50][len(want):], make([]api.Token, 50-len(want))) {
		t.Error("the tokens are changed")
	}
	clear(in[:50])
	if !sameAll(all, []api.Sexp{list(0, leaf(api.TokSymbol, "a", 1), list(3, leaf(api.TokSymbol, "b", 4), leaf(api.TokSymbol, "c", 6)), leaf(api.TokString, "d", 9)), leaf(api.TokNumeral, "1", 14)}) {
		t.Errorf("the tokens are kept: %v", all)
	}
	x, before := all[0], shifted(all[0], 0)
	sexp.Text(x)
	sexp.Deep(x)
	if !same(x, before) {
		t.Error("the expression is changed")
	}
}

// Rule 4: what is told is new memory each time, and each list has its own.
func TestNewMemory(t *testing.T) {
	in := tokens(t, "(a (b c) (d (e) f)) g (h i) ((j) (k))")
	first, _ := sexp.Read(in)
	second, _ := sexp.Read(in)
	places := append(kept(first), kept(second)...)
	count := len(places)
	slices.Sort(places)
	if count != 18 || len(slices.Compact(places)) != count {
		t.Error("two lists share memory")
	}
	grow(second)
	if again, _ := sexp.Read(in); !sameAll(first, again) {
		t.Error("two answers share memory")
	}
	if !slices.Equal(opens(flat(second)), opens(in)) {
		t.Error("a list reaches into another one")
	}
}

// grow writes behind the kids of all lists, where there is room.
func grow(all []api.Sexp) {
	for i := range all {
		grow(all[i].Kids)
	}
	_ = append(all, leaf(0, "over", 0))
}

// opens gives where the tokens that are no ) begin.
func opens(list []api.Token) []int {
	var places []int
	for _, tok := range list {
		if tok.Kind != api.TokClose {
			places = append(places, tok.At)
		}
	}
	return places
}

// someTokens gives tokens of all kinds, most of which are parentheses, each at a place of its own.
func someTokens(r *rand.Rand) []api.Token {
	var all []api.Token
	for at := range r.IntN(14) {
		kind := []int{api.TokOpen, api.TokClose, r.IntN(10)}[r.IntN(3)]
		all = append(all, token(kind, "t", 100-7*at))
	}
	return all
}

// faultBy gives by the words of the document what is wrong with tokens: each ) closes the last ( that isn't closed.
func faultBy(in []api.Token) api.Fault {
	var open []int
	for _, tok := range in {
		switch {
		case tok.Kind == api.TokOpen:
			open = append(open, tok.At)
		case tok.Kind != api.TokClose:
		case len(open) == 0:
			return api.Fault{Code: api.ErrParen, At: tok.At}
		default:
			open = open[:len(open)-1]
		}
	}
	if len(open) > 0 {
		return api.Fault{Code: api.ErrParen, At: open[len(open)-1]}
	}
	return api.Fault{}
}

// P1 and P2: the same calls give the same answers; and those are the document's, whatever the tokens are.
func TestP2SameCalls(t *testing.T) {
	r := rand.New(rand.NewPCG(8, 1))
	right, wrong := 0, 0
	for range 60000 {
		in := someTokens(r)
		want := faultBy(in)
		if want != (api.Fault{}) {
			wrong++
			fails(t, in, want.Code, want.At)
			continue
		}
		right++
		all, f := sexp.Read(in)
		if f != want || !slices.Equal(opens(flat(all)), opens(in)) || !sameKinds(flat(all), in) {
			t.Fatalf("%v: %v and %v", in, all, f)
		}
		reads(t, in, all...)
		sameAnswers(t, list(0, all...))
	}
	if right < 5000 || wrong < 5000 {
		t.Errorf("%d lists are right, %d wrong", right, wrong)
	}
}

// sameKinds tells whether tokens are of the same kinds, in order.
func sameKinds(x, y []api.Token) bool {
	return slices.EqualFunc(x, y, func(a, b api.Token) bool { return a.Kind == b.Kind })
}

// sameAnswers tells an error, if Text or Deep don't tell the same twice, or Deep isn't as the document tells.
func sameAnswers(t *testing.T, x api.Sexp) {
	t.Helper()
	first, right := sexp.Text(x)
	second, also := sexp.Text(x)
	if first != second || right != also {
		t.Errorf("%q and %q", first, second)
	}
	if sexp.Deep(x) != deepBy(x) || sexp.Deep(x) != deepBy(x) {
		t.Errorf("%v: %d deep, not %d", x, sexp.Deep(x), deepBy(x))
	}
}

// deepBy gives by the words of the document how deep an expression is.
func deepBy(x api.Sexp) int {
	if !x.List {
		return 0
	}
	deepest := 0
	for _, kid := range x.Kids {
		deepest = max(deepest, deepBy(kid))
	}
	return deepest + 1
}

// P1: expressions that are much deeper than any that is read.
func TestP1Deep(t *testing.T) {
	const deep = 1 << 20
	x := chain(deep)
	if d := sexp.Deep(x); d != deep {
		t.Errorf("%d deep", d)
	}
	noText(t, x)
}

// P1: lists whose kids are kept at one place are as many expressions as there are ways to them; the calls end, and tell what they would tell of these apart.
func TestP1Shared(t *testing.T) {
	x, s := list(0, leaf(api.TokSymbol, "x", 0)), "(x)"
	for range 10 {
		x, s = list(0, x, x), "("+s+" "+s+")"
	}
	text(t, x, s)
	// Of two lists at one place the one may have more kids.
	kids := []api.Sexp{leaf(api.TokSymbol, "x", 0), list(0)}
	text(t, list(0, list(0, kids[:1]...), list(0, kids...), list(0, kids[1:]...)), "((x) (x ()) (()))")
	if d := sexp.Deep(list(0, list(0, kids[:1]...), list(0, kids...))); d != 3 {
		t.Errorf("%d deep, not 3", d)
	}
	for range 200 {
		x = list(0, x, x)
	}
	if d := sexp.Deep(x); d != 211 {
		t.Errorf("%d deep, not 211", d)
	}
	noText(t, list(0, x, leaf(api.TokNumeral, "01", 0)))
	noText(t, list(0, x, chain(1000)))
}

// P1: a list that is within itself is deeper than any other one.
func TestP1Endless(t *testing.T) {
	kids := make([]api.Sexp, 3)
	kids[0] = leaf(api.TokSymbol, "x", 0)
	kids[1] = list(0, list(0, kids[:2]...), list(0))
	kids[2] = list(0, list(0, kids...))
	for _, x := range []api.Sexp{kids[1], kids[2], list(0, kids[1:]...), list(0, list(0), list(0, kids[1]), kids[0])} {
		if sexp.Deep(x) <= api.MaxDeep {
			t.Errorf("%d deep", sexp.Deep(x))
		}
		noText(t, x)
	}
	// What keeps its kids beside them isn't.
	text(t, list(0, kids[:1]...), "(x)")
}
