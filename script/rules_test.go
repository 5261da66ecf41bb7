package script_test

import (
	"math"
	"math/rand/v2"
	"reflect"
	"slices"
	"strings"
	"testing"

	"steelyard/api"
	"steelyard/script"
)

// rich is a text of which something comes of all kinds.
const rich = head + "(define-fun f ((a Real) (b Bool)) Real (ite b a (- a 123456789012345678901234567890.5)))(define-fun c () Real 1.25)" +
	"(assert (let ((u (f x p)) (v 2.5)) (< u v (f c (= u y)) (* v u))))(assert (xor p q true))(check-sat)(get-model)"

// lists gives where all lists of a script with elements are kept.
func lists(s api.Script) []uintptr {
	var at []uintptr
	put := func(list any) {
		if v := reflect.ValueOf(list); v.Len() > 0 {
			at = append(at, v.Pointer())
		}
	}
	put(s.Bools)
	put(s.Reals)
	put(s.Nodes)
	put(s.Asserts)
	for _, n := range s.Nodes {
		put(n.Kids)
		put(n.Number.Num.Mag)
		put(n.Number.Den)
	}
	return at
}

// spoilScript writes over all of the memory of a script.
func spoilScript(s api.Script) {
	for _, n := range s.Nodes {
		for i := range n.Kids[:cap(n.Kids)] {
			n.Kids[:cap(n.Kids)][i] = -77
		}
		for _, list := range []api.Nat{n.Number.Num.Mag, n.Number.Den} {
			clear(list[:cap(list)])
		}
	}
	clear(s.Nodes[:cap(s.Nodes)])
	clear(s.Bools[:cap(s.Bools)])
	clear(s.Reals[:cap(s.Reals)])
	clear(s.Asserts[:cap(s.Asserts)])
}

// Rule 4: what is handed in isn't changed, and isn't kept; what is answered is new memory, and each list has its own.
func TestMemory(t *testing.T) {
	in := make([]byte, len(rich), len(rich)+50)
	copy(in, rich)
	first, f := script.Read(in, 8)
	second := read(t, rich, 8)
	third := read(t, rich, 8)
	if f != (api.Fault{}) || string(in) != rich || !slices.Equal(in[:cap(in)][len(rich):], make([]byte, 50)) {
		t.Error("the text is changed")
	}
	for i := range in[:cap(in)] {
		in[:cap(in)][i] = 'z'
	}
	if !same(first, second) {
		t.Error("the text is kept")
	}
	at := append(lists(first), lists(second)...)
	size := len(at)
	slices.Sort(at)
	if size < 40 || len(slices.Compact(at)) != size {
		t.Error("two lists share memory")
	}
	spoilScript(second)
	if !same(first, third) || !same(first, read(t, rich, 8)) {
		t.Error("two answers share memory")
	}
}

func TestRightChangesNothing(t *testing.T) {
	s := read(t, rich, 8)
	want := read(t, rich, 8)
	for range 2 {
		if !script.Right(s) || !same(s, want) {
			t.Error("it is changed")
		}
	}
}

// someBytes gives a text of pieces by chance, most of which are such as texts have.
func someBytes(r *rand.Rand) string {
	pieces := append(strings.Fields("( ( ( ( ) ) ) ) let Real Bool a b c f |a| |d e| assert declare-const declare-fun define-fun check-sat get-model exit set-logic set-info QF_LRA :k \"s\" 1 2.5 0 99999999999 () ; # \x00 \xff"), allWords...)
	var text strings.Builder
	for range r.IntN(40) {
		text.WriteString(pick(r, pieces) + pick(r, []string{" ", " ", "\n", ""}))
	}
	return text.String()
}

// P1 and P2: whatever the text is, a call ends, and the same calls give the same answers; and those are what the document's words tell.
func TestP2SameCalls(t *testing.T) {
	r := rand.New(rand.NewPCG(11, 2))
	for range 20_000 {
		text := someBytes(r)
		if r.IntN(2) == 0 {
			text = head + "(assert " + text
		}
		limbs := pick(r, []int{math.MinInt, -1, 0, 1, 2, 3, 1000, math.MaxInt})
		want, fault := readBy(text, limbs)
		for range 2 {
			if s, f := script.Read([]byte(text), limbs); f != fault || !same(s, want) {
				t.Fatalf("%q: %s and %v, not %s and %v", text, show(s), f, show(want), fault)
			}
		}
	}
}

// P1: each beginning of a text, and each text that lacks a byte, or has another one, is answered.
func TestP1EveryByte(t *testing.T) {
	for at := range len(rich) {
		for _, text := range []string{rich[:at], rich[:at] + rich[at+1:], rich[:at] + "(" + rich[at:], rich[:at] + ")" + rich[at:], rich[:at] + " " + rich[at+1:], rich[:at] + "x" + rich[at+1:], rich[:at] + "0" + rich[at+1:]} {
			want, fault := readBy(text, 4)
			if s, f := script.Read([]byte(text), 4); f != fault || !same(s, want) {
				t.Errorf("%q: %s and %v, not %s and %v", text, show(s), f, show(want), fault)
			}
		}
	}
}

// P1: Right ends on nodes of all kinds.
func TestP1Right(t *testing.T) {
	r := rand.New(rand.NewPCG(11, 3))
	odd := []int{math.MinInt, -1, 0, 1, 2, 3, 4, 1 << 32, math.MaxInt}
	for range 20_000 {
		s := api.Script{Bools: make([]string, r.IntN(3)), Reals: make([]string, r.IntN(3))}
		for range r.IntN(5) {
			n := api.Node{Op: r.IntN(25) - 1, Number: pick(r, []api.Ratio{{}, {}, {Den: api.Nat{0}}, {Num: api.Whole{Mag: api.Nat{0, 0}}}, {Num: api.Whole{Neg: true}}})}
			if r.IntN(3) == 0 {
				n.Var = pick(r, odd)
			}
			for range r.IntN(4) {
				n.Kids = append(n.Kids, pick(r, odd))
			}
			s.Nodes = append(s.Nodes, n)
		}
		for range r.IntN(3) {
			s.Asserts = append(s.Asserts, pick(r, odd))
		}
		if script.Right(s) != script.Right(s) {
			t.Errorf("%v", s)
		}
	}
}
