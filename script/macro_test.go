package script_test

import (
	"strconv"
	"strings"
	"testing"

	"steelyard/api"
)

// Terms are read in order, then the macro's term with its parameters as these.
func TestP111Macros(t *testing.T) {
	reads(t, "(define-fun f ((a Real) (b Bool)) Real (ite b a (- a)))(assert (let ((b (f x p)) (x 2)) (< b x b)))", "x p (- 0) (ite 1 0 2) 2 (< 3 4 3) | 5")
	reads(t, "(define-fun f ((a Bool) (b Bool)) Bool (or b (not a) b))(assert (f (not p) (and p q)))", "p (not 0) p q (and 2 3) (not 1) (or 4 5 4) | 6")
	// The nodes of the definition are none of the script's; those of each call are anew.
	reads(t, "(define-fun f ((a Real)) Bool (and true (< a x 1.5)))(assert p)(assert (xor (f y) (f 2)))", "p y (true) x 3/2 (< 1 3 4) (and 2 5) 2 (true) x 3/2 (< 7 9 10) (and 8 11) (xor 6 12) | 0 13")
	reads(t, "(define-fun f ((a Real)) Bool p)(assert (f 1))(assert (let ((a q)) (f x)))", "1 p q x p | 1 4")
	// What is handed in is that node.
	reads(t, "(define-fun f ((a Bool)) Bool a)(assert (let ((b p)) (and b (f b) (f (f b)))))(assert (f q))", "p (and 0 0 0) q | 1 2")
	reads(t, "(define-fun f ((a Bool) (b Bool)) Bool b)(assert (f p q))", "p q | 1")
	reads(t, "(define-fun f () Real 1.5)(assert (< f (f) x))", "3/2 3/2 x (< 0 1 2) | 3")
	reads(t, "(define-fun f () Bool p)(define-fun g () Bool (not (f)))(assert (and g f (g)))", "p (not 0) p p (not 3) (and 1 2 4) | 5")
}

// Names are told where the macro is defined, not where it is called.
func TestP111MacroNames(t *testing.T) {
	reads(t, "(define-fun f ((a Bool)) Bool (and a p))(assert (let ((p q) (a false)) (f (or p a))))", "q (false) (or 0 1) p (and 2 3) | 4")
	reads(t, "(define-fun f ((a Bool)) Bool (not a))(define-fun g ((a Bool) (b Bool)) Bool (f (and b a)))(assert (g p q))", "p q (and 1 0) (not 2) | 3")
	reads(t, "(define-fun f ((p Bool) (x Bool)) Bool (let ((p x) (x p)) (=> p x)))(assert (f (not p) (or p q)))", "p (not 0) p q (or 2 3) (=> 4 1) | 5")
	reads(t, "(define-fun f ((a Real)) Real (let ((a (+ a a))) (let ((a (+ a a))) (* 2 a))))(assert (< (f x) y))", "x (+ 0 0) (+ 1 1) 2 (* 3 2) y (< 4 5) | 6")
	reads(t, "(define-fun f ((f Real)) Real (- f))(define-fun g ((f Bool)) Bool (not f))(assert (and (g p) (< (f 1) 2)))", "p (not 0) 1 (- 2) 2 (< 3 4) (and 1 5) | 6")
	failsAll(t, api.ErrWord, "(define-fun f () Bool #z)(declare-const z Bool)", "(define-fun f () Bool (#f))", "(define-fun f () Bool #f)", "(define-fun f ((a Real)) Real (#f a))", "(define-fun f () Bool (#g))(define-fun g () Bool true)", "(define-fun f ((a Bool)) Bool a)(define-fun g () Bool #a)", "(define-fun f ((a Bool)) Bool a)(define-fun g ((b Bool)) Bool (f #a))")
}

func TestP111DefineFun(t *testing.T) {
	failsAll(t, api.ErrParen, "(define-fun f #a Real 1)", "(define-fun f #1 what what)", "(define-fun f #Real Real 1)", "(define-fun f #\"\" Real 1)", "(define-fun f (#a) Real 1)", "(define-fun f (#a Real) Real 1)", "(define-fun f (#()) Real 1)", "(define-fun f (#(a)) Real 1)", "(define-fun f (#(a Real Real)) Real 1)",
		"(define-fun f ((a Real) #b) Real 1)", "(define-fun f ((a Real) #(b)) what ())", "(define-fun f (#((a Real))) Real 1)", "(define-fun f () Real #())", "(define-fun f () Real (#(a) 1))")
	failsAll(t, api.ErrTwice, "(define-fun f ((a Real) (#a Real)) Real 1)", "(define-fun f ((a Real) (b Bool) (#|a| Bool)) what what)", "(define-fun f ((x Real) (y Real) (#y Real)) Bool ())")
	failsAll(t, api.ErrSort, "(define-fun f () Real #p)", "(define-fun f () Bool #1)", "(define-fun f () Bool #(+ x y))", "(define-fun f ((a Real)) Bool #a)", "(define-fun f ((p Bool)) Real #p)", "(define-fun f ((x Bool)) Real #x)", "(define-fun f ((a Bool)) Bool (not #(not x)))", "(define-fun f ((x Bool)) Real #(ite x x x))", "(define-fun f () Bool (and true #(not 1.5)))")
	failsAll(t, api.ErrLine, "(define-fun f ((a Real)) Real #(* a a))", "(define-fun f ((a Real)) Real #(* a x))", "(define-fun f ((a Real)) Real #(/ 1 a))", "(define-fun f ((a Real)) Real #(/ x a))", "(define-fun f ((a Real) (b Real)) Bool #(* a b))", "(define-fun f ((a Real)) Bool (< 1 #(* (+ a 1) a)))")
	failsAll(t, api.ErrCount, "(define-fun f ((a Real)) Real #(+ a))", "(define-fun f ((a Bool)) Real #(not a a))")
	// A parameter may have the name of an unknown, a macro, or the one that is defined.
	reads(t, "(define-fun f ((x Bool) (y Bool) (f Bool) (Bool Bool)) Bool (and x y f Bool))(define-fun g ((f Real)) Real f)(assert (f p q p q))", "p q p q (and 0 1 2 3) | 4")
}

func TestP111CallFaults(t *testing.T) {
	define := "(define-fun n () Bool true)(define-fun f ((a Real)) Real a)(define-fun g ((a Real) (b Bool) (c Real)) Bool b)"
	for _, text := range []string{"(assert (< #(f) 1))", "(assert (< #(f x x) 1))", "(assert (< 1 #(f p p)))", "(assert #(n p))", "(assert #(n x y))", "(assert #(g))", "(assert #(g x p))", "(assert #(g x p x x))", "(assert #(g p p p p))", "(assert #(f))", "(assert (not #(n n)))"} {
		fails(t, api.ErrCount, define+text)
	}
	for _, text := range []string{"(assert (< (f #p) 1))", "(assert (< (f #(not p)) 1))", "(assert (g #p p x))", "(assert (g x #x x))", "(assert (g x p #p))", "(assert (g x #1 q))", "(assert (g #n (f 1) n))", "(assert (g (f (f x)) n #n))", "(assert #(f x))", "(assert (< (f x) (f (f #n))))"} {
		fails(t, api.ErrSort, define+text)
	}
	for _, text := range []string{"(assert (f #what))", "(assert (f x #what))", "(assert (n #what))", "(assert (g p p #what p))", "(assert #f)", "(assert (< #f 1))", "(assert (#n1))", "(assert (g p #f x))"} {
		fails(t, api.ErrWord, define+text)
	}
	fails(t, api.ErrSort, define+"(assert (g (f #p) x p))")
	fails(t, api.ErrCount, define+"(assert (g p #(n x) p))")
}

// What a call comes to is ground, if it is so with what is handed in.
func TestP111MacroGround(t *testing.T) {
	define := "(define-fun two ((a Real)) Real (* 2 a))(define-fun c () Real (- 3))(define-fun i ((a Real)) Real (ite p a a))(define-fun u ((a Real)) Real 7)(define-fun v ((a Real)) Real x)"
	s := read(t, head+define+"(assert (< (* (two 3) x c) (/ x (two c)) (* (u x) y) (/ y (u y))))", 1)
	if got := show(s); got != "3 2 (* 1 0) x 3 (- 4) (* 2 3 5) x 3 (- 8) 2 (* 10 9) (/ 7 11) x 7 y (* 14 15) y y 7 (/ 17 19) (< 6 12 16 20) | 21" {
		t.Error(got)
	}
	for _, text := range []string{"#(* (two x) x)", "#(/ 1 (two x))", "#(* (i 1) x)", "#(/ 1 (i 1))", "#(* x (v 1))", "#(/ x (v 1))", "#(* x (two (two y)))"} {
		fails(t, api.ErrLine, define+"(assert (< "+text+" 1))")
	}
	// Within a macro parameters aren't ground, though all that is handed in be.
	failsAll(t, api.ErrLine, define+"(define-fun w ((a Real)) Real #(* a (two a)))", define+"(define-fun w ((a Real)) Real #(/ 1 (two a)))")
	reads(t, "(define-fun f ((a Real)) Real (* 2 a))(define-fun g ((a Real)) Real (* (f 3) a))(assert (< (/ x (g 5)) 1))", "x 5 3 2 (* 3 2) (* 4 1) (/ 0 5) 1 (< 6 7) | 8")
}

// Macros with few nodes and with many, over each other, have the nodes that are told.
func TestP111MacroSizes(t *testing.T) {
	for size := 1; size <= 40; size++ {
		sum := func(list ...string) string { return "(+ " + strings.Join(list, " ") + ")" }
		var ones []string
		for i := range size {
			ones = append(ones, strconv.Itoa(i))
		}
		define := "(define-fun f ((a Real) (b Real)) Real " + sum(append(ones, "b", "a")...) + ")" +
			"(define-fun g ((a Real) (b Real)) Real (f (f b 7) (- a)))" +
			"(define-fun h ((b Real)) Bool (< (g b x) b (f b b)))"
		// f's nodes behind those at which it stands, and the place of the last one
		var list []string
		called := func(a, b int) int {
			list = append(list, ones...)
			kids := make([]string, size)
			for i := range kids {
				kids[i] = strconv.Itoa(len(list) - size + i)
			}
			list = append(list, sum(append(kids, strconv.Itoa(b), strconv.Itoa(a))...))
			return len(list) - 1
		}
		put := func(text string) int { list = append(list, text); return len(list) - 1 }
		arg, unknown := put("1000"), put("x")
		inner := called(unknown, put("7"))
		outer := called(inner, put("(- "+strconv.Itoa(arg)+")"))
		last := called(arg, arg)
		less := put("(< " + strconv.Itoa(outer) + " " + strconv.Itoa(arg) + " " + strconv.Itoa(last) + ")")
		reads(t, define+"(assert (h 1000))", strings.Join(list, " ")+" | "+strconv.Itoa(less))
	}
}

// chain gives macros, each of a term in which the one ahead is called, as @; and an assert of the last one.
func chain(first, term string, size int) string {
	var text strings.Builder
	text.WriteString("(define-fun f0 ((a Bool)) Bool " + first + ")")
	for i := 1; i < size; i++ {
		text.WriteString("(define-fun f" + strconv.Itoa(i) + " ((a Bool)) Bool " + strings.ReplaceAll(term, "@", "f"+strconv.Itoa(i-1)) + ")")
	}
	return text.String() + "(assert (f" + strconv.Itoa(size-1) + " p))"
}

// Many macros over each other, deeper than expressions may be, have just the nodes that they have; each call is anew.
func TestP111MacroChains(t *testing.T) {
	many := "(and " + strings.Repeat("a ", 30) + strings.Repeat("true ", 30) + ")"
	lets, shut := strings.Repeat("(let ((z a)) ", 990), strings.Repeat(")", 990)
	for _, c := range []struct {
		text  string
		nodes int
	}{
		{chain("a", "(@ a)", 30_000), 1},
		{chain("(not a)", "(@ a)", 30_000), 2},
		{chain(many, "(@ a)", 3_000), 1 + 31},
		{chain("a", "(not (@ a))", 1_000), 1 + 999},
		{chain("a", "(@ (not a))", 1_000), 1 + 999},
		{chain("a", "(and (@ a) a true)", 1_000), 1 + 999*2},
		{chain("(not a)", "(and (@ a) (@ a))", 12), 1 + 1<<12 - 1},
		{chain("(and a a true)", "(or (@ (not a)) (@ a))", 12), 1 + 2<<11 + 2*(1<<11-1)},
		// No node comes of 2^400 calls.
		{chain("a", "(let ((u (@ a)) (v (@ a))) (@ u))", 400), 1},
		{chain("a", lets+"(@ z)"+shut, 60), 1},
		{chain(many, lets+"(and (@ z) z)"+shut, 60), 1 + 31 + 59},
	} {
		s := read(t, "(declare-const p Bool)"+c.text, 1)
		if len(s.Nodes) != c.nodes {
			t.Errorf("%s: %d nodes, not %d", short(c.text), len(s.Nodes), c.nodes)
		}
	}
}
