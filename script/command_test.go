package script_test

import (
	"slices"
	"strings"
	"testing"

	"steelyard/api"
	"steelyard/script"
)

func TestP111Example(t *testing.T) {
	s := read(t, "(declare-const x Real)(assert (< x 1.5))", 1)
	if show(s) != "x 3/2 (< 0 1) | 2" || len(s.Nodes) != 3 || len(s.Asserts) != 1 || s.Check || s.Model || !slices.Equal(s.Reals, []string{"x"}) || len(s.Bools) != 0 {
		t.Errorf("%v", s)
	}
}

func TestP111Nothing(t *testing.T) {
	for _, text := range []string{"", " \t\r\n", "; nothing", "(exit)", "(set-logic QF_LRA)", "(set-info :a)(set-logic QF_LRA)(exit)"} {
		if s := read(t, text, 1); !same(s, api.Script{}) {
			t.Errorf("%q: %v", text, s)
		}
	}
	if s, f := script.Read(nil, 0); f != (api.Fault{}) || !same(s, api.Script{}) {
		t.Errorf("%v, %v", s, f)
	}
}

// Unknowns of each sort have numbers of their own, in the order in which they are declared.
func TestP111Unknowns(t *testing.T) {
	s := read(t, "(declare-const c Real)(declare-fun b () Bool)(declare-fun a () Real)(assert (< a c))(declare-const d Bool)(declare-const |e f| Real)(assert (= d b (= |e f| a)))", 1)
	if !slices.Equal(s.Reals, []string{"c", "a", "e f"}) || !slices.Equal(s.Bools, []string{"b", "d"}) {
		t.Errorf("%q, %q", s.Bools, s.Reals)
	}
	if got := show(s); got != "a c (< 0 1) d b e f a (= 5 6) (= 3 4 7) | 2 8" || s.Nodes[5].Var != 2 || s.Nodes[5].Op != api.OpReal || s.Nodes[3].Var != 1 || s.Nodes[3].Op != api.OpBool {
		t.Errorf("%s", got)
	}
	var text strings.Builder
	var bools, reals []string
	for i := range 3000 {
		name := "u" + strings.Repeat("i", i%7) + string(rune('a'+i%26)) + strings.Repeat("-", i/182)
		if slices.Contains(bools, name) || slices.Contains(reals, name) {
			continue
		}
		if i%3 == 0 {
			bools = append(bools, name)
			text.WriteString("(declare-const " + name + " Bool)")
		} else {
			reals = append(reals, name)
			text.WriteString("(declare-fun " + name + " () Real)")
		}
	}
	if s := read(t, text.String(), 1); !slices.Equal(s.Bools, bools) || !slices.Equal(s.Reals, reals) || len(bools) < 900 || len(reals) < 1800 {
		t.Errorf("%d and %d names", len(s.Bools), len(s.Reals))
	}
}

// What a text is called by is a symbol's text, however it is written.
func TestP111Symbols(t *testing.T) {
	s := read(t, "(|set-logic| |QF_LRA|)(|declare-const| |a| |Real|)(declare-const || Bool)(declare-const Bool Bool)(declare-const assert Bool)(|assert| (|and| || Bool assert (< 1 |a|) |true|))(|check-sat|)(|get-model|)(|exit|)()", 1)
	if show(s) != " Bool assert 1 a (< 3 4) (true) (and 0 1 2 5 6) | 7" || !s.Check || !s.Model {
		t.Errorf("%v", s)
	}
	fails(t, api.ErrTwice, "(declare-const #|x| Real)")
	fails(t, api.ErrWord, "(declare-const #|not| Real)")
	fails(t, api.ErrWord, "(declare-const #|let| Real)")
}

// What tokens, and expressions, can't be is told first, wherever it stands.
func TestP111TokensFirst(t *testing.T) {
	for text, want := range map[string]api.Fault{
		"#":                          {Code: api.ErrByte},
		"(what)(assert 01)":          {Code: api.ErrByte, At: 15},
		"(what) (":                   {Code: api.ErrParen, At: 7},
		"x)":                         {Code: api.ErrParen, At: 1},
		")(#":                        {Code: api.ErrByte, At: 2},
		"(exit)#":                    {Code: api.ErrByte, At: 6},
		"(exit))":                    {Code: api.ErrParen, At: 6},
		"(exit)(assert ((":           {Code: api.ErrParen, At: 15},
		"(exit) \"":                  {Code: api.ErrByte, At: 8},
		strings.Repeat("(", 1001):    {Code: api.ErrDeep, At: 1000},
		"x" + strings.Repeat("(", 9): {Code: api.ErrParen, At: 9},
	} {
		faulty(t, text, 1, want)
	}
}

// As deep as expressions may be terms are read.
func TestP111Deep(t *testing.T) {
	for _, c := range []struct {
		open, shut string
		times      int
	}{{"(not ", ")", 999}, {"(ite p p ", ")", 999}, {"(let ((a p)) ", ")", 997}, {"(let ((a ", ")) a)", 333}} {
		text := "(assert " + strings.Repeat(c.open, c.times) + "p" + strings.Repeat(c.shut, c.times) + ")"
		if s := read(t, head+text, 1); len(s.Asserts) != 1 {
			t.Errorf("%s: %v", short(text), s.Asserts)
		}
	}
	text := "(assert " + strings.Repeat("(not ", 1000) + "p" + strings.Repeat(")", 1001)
	faulty(t, head+text, 1, api.Fault{Code: api.ErrDeep, At: len(head) + 8 + 999*5})
}

func TestP111NoCommand(t *testing.T) {
	failsAll(t, api.ErrParen, "#x", "#assert", "#1", "#1.5", "#:a", "#\"a\"", "#()", "#(())", "#((assert p))", "#((assert) p)", "#(\"assert\" p)", "#(:assert p)", "#(1 p)", "(assert p)#(1.0)", "(check-sat)#exit")
	failsAll(t, api.ErrWord, "(#push 1)", "(#Assert p)", "(#assert- p)", "(#let ((a p)) a)", "(#not p)", "(#p)", "(#|| p)", "(check-sat)(#get-value (p))", "(#check-sat-assuming ())", "(#declare-sort A 0)", "(#QF_LRA)", "(#reset)", "(#define-const a Real 1)")
}

// What is behind an exit isn't looked at.
func TestP111Exit(t *testing.T) {
	for _, behind := range []string{"(what)", "x", "()", "(exit)", "(check-sat)(get-model)", "(assert x)", "(get-model)", "(exit 1)", "(set-logic QF_LRA)"} {
		if s := read(t, head+"(assert p)(exit)"+behind, 1); show(s) != "p | 0" || s.Check || s.Model {
			t.Errorf("%s: %v", behind, s)
		}
	}
	if s := read(t, head+"(check-sat)(exit)(get-model)", 1); !s.Check || s.Model {
		t.Errorf("%v", s)
	}
}

func TestP111CheckModel(t *testing.T) {
	for text, want := range map[string][2]bool{
		"":                       {false, false},
		"(check-sat)":            {true, false},
		"(check-sat)(get-model)": {true, true},
		"(check-sat)(set-info :a)(get-model)(set-option :b 1)(get-model)(exit)": {true, true},
	} {
		if s := read(t, head+text, 1); s.Check != want[0] || s.Model != want[1] {
			t.Errorf("%s: %v, %v", text, s.Check, s.Model)
		}
	}
}

// The order of commands is asked ahead of what is behind their symbols, and behind what their symbols are.
func TestP111Order(t *testing.T) {
	parts := map[string][]string{
		"declare-const": {"(declare-const n Real)", "(declare-const x Real)", "(declare-const)", "(declare-const 1 2 3)"},
		"declare-fun":   {"(declare-fun n () Real)", "(declare-fun not () Real)", "(declare-fun)"},
		"define-fun":    {"(define-fun n () Real 1)", "(define-fun n () Real p)", "(define-fun)"},
		"assert":        {"(assert p)", "(assert x)", "(assert)", "(assert p p)", "(assert ())"},
		"check-sat":     {"(check-sat)", "(check-sat p)"},
		"get-model":     {"(get-model)", "(get-model p)"},
		"set-logic":     {"(set-logic QF_LRA)", "(set-logic)", "(set-logic ALL)", "(set-logic QF_LRA QF_LRA)"},
	}
	for name, list := range parts {
		for _, text := range list {
			if name == "get-model" {
				fails(t, api.ErrOrder, "#"+text)
				fails(t, api.ErrOrder, "(assert p)#"+text+"(check-sat)")
			} else {
				fails(t, api.ErrOrder, "(check-sat)#"+text)
				fails(t, api.ErrOrder, "(check-sat)(get-model)(set-info :a)#"+text)
			}
		}
	}
	for _, ahead := range []string{"(set-logic QF_LRA)", "(declare-const n Real)", "(declare-fun n () Real)", "(define-fun n () Real 1)", "(assert true)", "(check-sat)", "(check-sat)(get-model)", "(set-info :a)(set-logic QF_LRA)(set-option :b)"} {
		for _, text := range parts["set-logic"] {
			faulty(t, ahead+text, 1, api.Fault{Code: api.ErrOrder, At: len(ahead)})
		}
	}
	read(t, "(set-option :a)(set-info :b c)(set-option :a)(set-logic QF_LRA)(set-info :c)(assert true)(set-option :d)(check-sat)", 1)
}

func TestP111Count(t *testing.T) {
	failsAll(t, api.ErrCount,
		"#(set-option)", "#(set-info)", "#(declare-const)", "#(declare-const n)", "#(declare-const n Real Real)", "#(declare-const 1)",
		"#(declare-fun)", "#(declare-fun n)", "#(declare-fun n ())", "#(declare-fun n Real)", "#(declare-fun n () Real 1)", "#(declare-fun x 1)",
		"#(define-fun)", "#(define-fun n)", "#(define-fun n ())", "#(define-fun n () Real)", "#(define-fun n () Real 1 1)", "#(define-fun x () Foo)",
		"#(assert)", "#(assert p q)", "#(assert p :named a)", "#(assert () ())", "#(check-sat p)", "#(check-sat ())", "(check-sat)#(get-model p)", "#(exit 0)", "(check-sat)#(exit 0)")
	faulty(t, " (set-logic)", 1, api.Fault{Code: api.ErrCount, At: 1})
	faulty(t, " (set-logic QF_LRA QF_LRA)", 1, api.Fault{Code: api.ErrCount, At: 1})
	faulty(t, " (set-logic () ())", 1, api.Fault{Code: api.ErrCount, At: 1})
}

func TestP111SetLogic(t *testing.T) {
	for _, name := range []string{"ALL", "QF_LRA1", "qf_lra", "QF_LR", "||", "\"QF_LRA\"", ":QF_LRA", "1", "(QF_LRA)", "()"} {
		faulty(t, "(set-info :a)(set-logic "+name+")", 1, api.Fault{Code: api.ErrWord, At: 24})
	}
}

func TestP111Aside(t *testing.T) {
	for _, name := range []string{"set-option", "set-info"} {
		for _, right := range []string{":a", ":a b", ":a 1 2.5 \"c\" (d (e)) :f", ":status sat", ":- not"} {
			if s := read(t, head+"("+name+" "+right+")(assert p)", 1); show(s) != "p | 0" {
				t.Errorf("%s: %v", right, s)
			}
		}
		for _, wrong := range []string{"#a", "#a :b", "#\"a\" :b", "#1 :b", "#(:a) :b", "#()", "#|:a|", "#p"} {
			fails(t, api.ErrWord, "("+name+" "+wrong+")")
		}
	}
}

// Names are symbols, but no words, nor let, and those of declarations and macros aren't there yet.
func TestP111Names(t *testing.T) {
	wrong := append([]string{"let", "1", "1.5", ":a", "\"a\"", "()", "(a)", "|let|", "|true|"}, allWords...)
	for _, name := range wrong {
		failsAll(t, api.ErrWord,
			"(declare-const #"+name+" Real)", "(declare-const #"+name+" Foo)", "(declare-fun #"+name+" () Real)", "(declare-fun #"+name+" 1 Foo)",
			"(define-fun #"+name+" () Real 1)", "(define-fun #"+name+" 1 Foo ())", "(define-fun n ((#"+name+" Real)) Real 1)", "(define-fun n ((a Real) (#"+name+" Foo)) Foo what)",
			"(assert (let ((#"+name+" p)) p))", "(assert (let ((a p) (#"+name+" what)) what))")
	}
	for _, ahead := range []string{"(declare-const n Bool)", "(declare-fun n () Real)", "(define-fun n () Real 1)", "(define-fun n ((a Real)) Bool true)"} {
		failsAll(t, api.ErrTwice, ahead+"(declare-const #n Bool)", ahead+"(declare-const #|n| Foo)", ahead+"(declare-fun #n () Real)", ahead+"(declare-fun #n (Real) Foo)",
			ahead+"(define-fun #n () Real 1)", ahead+"(define-fun #n what Foo what)")
	}
	for _, name := range []string{"Bool", "Real", "assert", "exit", "QF_LRA", "n", "!", "->", "truE", "|a b|", "||", "|1|", "|:a|", "|()|", "Let", "@", "===", "--"} {
		s := read(t, "(declare-fun "+name+" () Bool)(define-fun m (("+name+" Real)) Real (- "+name+"))(assert "+name+")(assert (let (("+name+" (not "+name+"))) (not "+name+")))(assert (< (m 1) 2))", 1)
		if want := strings.Trim(name, "|"); len(s.Bools) != 1 || s.Bools[0] != want || show(s) != want+" "+want+" (not 1) (not 2) 1 (- 4) 2 (< 5 6) | 0 3 7" {
			t.Errorf("%s: %s", name, show(s))
		}
	}
}

func TestP111Sorts(t *testing.T) {
	for _, sort := range []string{"Int", "bool", "real", "Reals", "||", "1", "1.0", ":Real", "\"Real\"", "()", "(Real)", "(Bool)", "x", "true"} {
		failsAll(t, api.ErrWord, "(declare-const n #"+sort+")", "(declare-fun n () #"+sort+")", "(define-fun n () #"+sort+" 1)", "(define-fun n () #"+sort+" what)",
			"(define-fun n ((a #"+sort+")) Real 1)", "(define-fun n ((a Real) (b #"+sort+")) Foo what)", "(define-fun n ((a #"+sort+") (a Real)) Real 1)")
	}
}

func TestP111DeclareFun(t *testing.T) {
	for _, list := range []string{"(Real)", "(())", "Real", "1", "\"()\"", ":a", "((a Real))", "|()|"} {
		failsAll(t, api.ErrParen, "(declare-fun n #"+list+" Real)", "(declare-fun n #"+list+" Foo)")
	}
}

func TestP111Assert(t *testing.T) {
	reads(t, "(assert p)(assert true)(assert (< x y))(assert p)", "p (true) x y (< 2 3) p | 0 1 4 5")
	reads(t, "(assert (let ((a p)) a))(assert (let ((a p)) p))", "p p p | 0 2")
	failsAll(t, api.ErrSort, "(assert #x)", "(assert #1)", "(assert #1.5)", "(assert #(+ x y))", "(assert p)(assert #(let ((a p) (b x)) b))", "(assert #(ite p x y))", "(define-fun f () Real 1)(assert #f)", "(define-fun f ((a Real)) Real a)(assert #(f x))")
}

// A fault ends it: what is behind it, wrong too, isn't told.
func TestP111FirstFault(t *testing.T) {
	failsAll(t, api.ErrSort, "(assert #x)(what)", "(assert #x)(exit)", "(assert (and p #(not x) (not y)))", "(assert (and p #(not x) what))", "(assert (and (or p #(not x)) ()))")
	failsAll(t, api.ErrWord, "(assert (and #what (not x)))", "(assert (#what (not x)))", "(declare-const n #Foo)(assert x)")
}
