package script_test

import (
	"strings"
	"testing"

	"steelyard/api"
)

// Unknowns, numbers, true and false are a node each time that they stand there.
func TestP111Nodes(t *testing.T) {
	reads(t, "(assert (and true p false p true))", "(true) p (false) p (true) (and 0 1 2 3 4) | 5")
	reads(t, "(assert (< x 1 x 1 1.0))", "x 1 x 1 1 (< 0 1 2 3 4) | 5")
	reads(t, "(assert (or (and p q) (not (and q p))))(assert p)", "p q (and 0 1) q p (and 3 4) (not 5) (or 2 6) p | 7 8")
	reads(t, "(assert (< (+ x (* 2 y)) (- (/ x 4) (- 1.5))))", "x 2 y (* 1 2) (+ 0 3) x 4 (/ 5 6) 3/2 (- 8) (- 7 9) (< 4 10) | 11")
}

// Each word has its operator.
func TestP111Operators(t *testing.T) {
	truths := map[string]string{
		"(not p)": "(not 0)", "(and p p p)": "(and 0 1 2)", "(or p p p)": "(or 0 1 2)", "(xor p p p)": "(xor 0 1 2)", "(=> p p p)": "(=> 0 1 2)",
		"(ite p p p)": "(ite 0 1 2)", "(= p p)": "(= 0 1)", "(distinct p p p)": "(distinct 0 1 2)",
	}
	for text, want := range truths {
		s := read(t, head+"(assert "+text+")", 1)
		if got := show(s); !strings.HasPrefix(got, "p ") || !strings.Contains(got, want+" |") {
			t.Errorf("%s: %s", text, got)
		}
	}
	for op := api.OpEqual; op <= api.OpDiv; op++ {
		text := "(" + wordOf(op) + " 3 2)"
		if op >= api.OpAdd {
			text = "(< " + text + " 1)"
		}
		if s := read(t, "(assert "+text+")", 1); s.Nodes[2].Op != op {
			t.Errorf("%s: %v", text, s.Nodes)
		}
	}
	reads(t, "(assert (= (ite p x 1) (ite q 2 y)))", "p x 1 (ite 0 1 2) q 2 y (ite 4 5 6) (= 3 7) | 8")
}

// A symbol tells of a let's name, of an unknown, of a macro without parameters, or is true or false.
func TestP111SymbolTerms(t *testing.T) {
	reads(t, "(define-fun m () Bool (not q))(assert (and m m))", "q (not 0) q (not 2) (and 1 3) | 4")
	reads(t, "(define-fun m () Real 1.5)(assert (let ((m x)) (< m m y)))(assert (< m 2))", "x y (< 0 0 1) 3/2 2 (< 3 4) | 2 5")
	for _, word := range append([]string{"let", "Bool", "n", "QF_LRA", "assert", "||", "|p |", "P"}, allWords[2:]...) {
		failsAll(t, api.ErrWord, "(assert #"+word+")", "(assert (and p #"+word+" what))", "(assert (let ((a #"+word+")) a))", "(define-fun n () Bool #"+word+")", "(define-fun f ((a Real)) Bool true)(assert (f #"+word+"))")
	}
	failsAll(t, api.ErrWord, "(define-fun f ((a Real)) Bool true)(assert #f)", "(define-fun f ((a Bool)) Bool a)(assert #a)", "(assert (and (let ((a p)) a) #a))", "(assert #:p)", "(assert #\"p\")", "(assert (not #:not))", "(assert (= #\"\" \"\"))")
}

func TestP111ListTerms(t *testing.T) {
	failsAll(t, api.ErrParen, "(assert #())", "(assert (and p #()))", "(assert (#(not) p))", "(assert (#(p)))", "(assert (#()))", "(assert (#1 2))", "(assert (#1.5))", "(assert (#:not p))", "(assert (#\"not\" p))", "(assert (not (#(not p))))")
	failsAll(t, api.ErrWord, "(assert (#p))", "(assert (#x 1))", "(assert (#n p))", "(assert (#true))", "(assert (#false))", "(assert (#true p))", "(assert (#false what))", "(assert (not (#p ())))", "(assert (#assert p))", "(assert (#Not p))", "(assert (#! p :named a))", "(assert (#forall ((a Real)) p))")
}

// Terms are read in order, then the operator over them is added.
func TestP111Add(t *testing.T) {
	failsAll(t, api.ErrCount, "(assert #(not))", "(assert #(not p p))", "(assert #(and))", "(assert #(and p))", "(assert #(or q))", "(assert #(xor p))", "(assert #(=> p))", "(assert #(ite p q))", "(assert #(ite p q p q))", "(assert #(= x))", "(assert #(distinct))", "(assert #(< x))",
		"(assert (< x #(+)))", "(assert (< x #(+ x)))", "(assert (< x #(-)))", "(assert (< x #(* y)))", "(assert (< x #(/ y)))", "(assert #(not x x))", "(assert #(and x))", "(assert (or #(and x) what))")
	failsAll(t, api.ErrSort, "(assert #(not x))", "(assert #(and p x))", "(assert #(ite x p q))", "(assert #(ite p x q))", "(assert #(= p x))", "(assert #(distinct x y p))", "(assert #(< p q))", "(assert (< #(+ x p) y))", "(assert (< x #(- p)))", "(assert (< x #(* p x y)))", "(assert (and p #(or x p)))")
	failsAll(t, api.ErrLine, "(assert (< #(* x y) 1))", "(assert (< #(* x x) 1))", "(assert (< #(/ 1 x) 1))", "(assert (< #(/ x y) 1))", "(assert (< (+ 1 #(* 2 x (+ x 1))) 1))", "(assert (< #(* x (ite p 1 2)) 1))", "(assert (let ((a x)) (< #(* a a) what)))")
	failsAll(t, api.ErrWord, "(assert (and (< x #what) (not x)))", "(assert (not p #what))", "(assert (+ p #what))", "(assert (* x y #what))", "(assert (ite #what))")
	reads(t, "(assert (< (* 2 x 3) (/ x 2 3) (* (- 1) (/ 3 4) (+ x y))))", "2 x 3 (* 0 1 2) x 2 3 (/ 4 5 6) 1 (- 8) 3 4 (/ 10 11) x y (+ 13 14) (* 9 12 15) (< 3 7 16) | 17")
	reads(t, "(assert (let ((a (- 7))) (< (* a x a) (/ x a))))", "7 (- 0) x (* 1 2 1) x (/ 4 1) (< 3 5) | 6")
}

func TestP111Let(t *testing.T) {
	reads(t, "(assert (let ((a (not p))) (and a a)))", "p (not 0) (and 1 1) | 2")
	reads(t, "(assert (let ((a p) (b (< x 1))) (or b a b)))", "p x 1 (< 1 2) (or 3 0 3) | 4")
	// A name that isn't used has its nodes.
	reads(t, "(assert (let ((a x) (b (+ x y))) q))", "x x y (+ 1 2) q | 4")
	// Terms of bindings are read without the names of that let.
	reads(t, "(assert (let ((p q) (q p)) (and p q p)))", "q p (and 0 1 0) | 2")
	reads(t, "(assert (let ((a p)) (let ((a (not a)) (b a)) (and a b))))", "p (not 0) (and 1 0) | 2")
	reads(t, "(assert (let ((x p)) (let ((x (not x))) (let ((y x)) (xor x y)))))", "p (not 0) (xor 1 1) | 2")
	// Behind its term a name tells what it told ahead.
	reads(t, "(assert (and (let ((p q)) p) p (let ((p true)) (not p))))", "q p (true) (not 2) (and 0 1 3) | 4")
	reads(t, "(assert (let ((a p)) (and (let ((a q)) a) a)))", "p q (and 1 0) | 2")
	reads(t, "(assert (let ((a (let ((b p)) (not b)))) (or a a)))", "p (not 0) (or 1 1) | 2")
	reads(t, "(assert (let ((a 1.5) (b x)) (< (let ((a y) (c a)) (+ a b c)) a)))", "3/2 x y (+ 2 1 0) (< 3 0) | 4")
	reads(t, "(assert (|let| ((|a| p)) a))", "p | 0")
}

func TestP111LetFaults(t *testing.T) {
	failsAll(t, api.ErrCount, "(assert #(let))", "(assert #(let ((a p))))", "(assert #(let ()))", "(assert #(let what))", "(assert #(let ((a p)) a a))", "(assert #(let () () ()))", "(assert (not #(let p p p)))")
	failsAll(t, api.ErrParen, "(assert (let #() p))", "(assert (let #a p))", "(assert (let #1 what))", "(assert (let #\"()\" p))", "(assert (let #:a p))",
		"(assert (let (#a) p))", "(assert (let (#a p) p))", "(assert (let (#()) p))", "(assert (let (#(a)) p))", "(assert (let (#(a p q)) p))", "(assert (let (#1) p))", "(assert (let ((a p) #b) what))", "(assert (let ((a p) #(a)) what))", "(assert (let (#(not)) p))", "(assert (let (#(a p p) (not p)) p))")
	failsAll(t, api.ErrWord, "(assert (let ((#not p)) p))", "(assert (let ((#1 p)) p))", "(assert (let ((#(a) p)) p))", "(assert (let ((#let what)) p))", "(assert (let ((a #what) (a p)) p))", "(assert (let ((a #b) (b p)) p))", "(assert (let ((b p) (a #b)) p))", "(assert (let ((a #a)) p))", "(assert (let ((a p) (b #what) (c)) p))", "(assert (let ((a p)) #b))")
	failsAll(t, api.ErrTwice, "(assert (let ((a p) (#a p)) a))", "(assert (let ((a p) (b p) (#|a| what)) a))", "(assert (let ((p p) (#p ())) p))", "(assert (let ((b p) (a p) (#a q) (a)) p))")
	failsAll(t, api.ErrSort, "(assert (let ((a #(not x)) (a p)) p))", "(assert (let ((a x)) #(not a)))")
	failsAll(t, api.ErrLine, "(assert (let ((a x)) (< #(* a a) 1)))")
}

// A let's name, or a parameter, is no operator, whatever else has that name.
func TestP111NamesAreNoOperators(t *testing.T) {
	failsAll(t, api.ErrWord, "(assert (let ((a p)) (#a)))", "(assert (let ((a p)) (#a what)))", "(define-fun f ((a Bool)) Bool a)(assert (let ((f p)) (#f p)))", "(define-fun f ((a Bool)) Bool a)(assert (let ((f p)) (let ((g q)) (#f ()))))",
		"(define-fun f ((a Bool)) Bool a)(define-fun g ((f Bool)) Bool (#f f))", "(define-fun f () Bool true)(define-fun g ((f Real)) Real (#f))", "(define-fun g ((a Bool)) Bool (#a))", "(define-fun g ((a Bool)) Bool (let ((b a)) (#a)))")
	reads(t, "(define-fun f ((a Bool)) Bool (not a))(assert (let ((a (f p)) (f q)) (and a f)))", "p (not 0) q (and 1 2) | 3")
	reads(t, "(define-fun f ((a Bool)) Bool (not a))(assert (and (let ((f q)) f) (f p)))", "q p (not 1) (and 0 2) | 3")
}
