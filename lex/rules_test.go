package lex_test

import (
	"bytes"
	"math/rand/v2"
	"slices"
	"strings"
	"testing"

	"steelyard/api"
	"steelyard/lex"
)

// Rule 4: what is handed in isn't changed, and isn't kept.
func TestHandedIn(t *testing.T) {
	text := "(a |b c| 12 1.5 :k \"s\"\"t\") ; c"
	b := make([]byte, len(text), 200)
	copy(b, text)
	list, _ := lex.Read(b)
	if string(b) != text || !bytes.Equal(b[:200][len(text):], make([]byte, 200-len(text))) {
		t.Error("the bytes are changed")
	}
	clear(b[:200])
	reads(t, text, list...)
}

// Rule 4: what is told is new memory each time.
func TestNewMemory(t *testing.T) {
	b := []byte("(a b)")
	first, _ := lex.Read(b)
	want := slices.Clone(first)
	second, _ := lex.Read(b)
	clear(second[:cap(second)])
	if !slices.Equal(first, want) {
		t.Error("two answers share memory")
	}
	reads(t, "(a b)", want...)
}

// Rule 3: a list without elements and a nil list are one.
func TestNoBytes(t *testing.T) {
	for _, b := range [][]byte{nil, {}} {
		if list, f := lex.Read(b); len(list) != 0 || f != (api.Fault{}) {
			t.Errorf("no bytes: %v, %v", list, f)
		}
	}
}

// someText gives a text of pieces of tokens, and of other bytes.
func someText(r *rand.Rand) string {
	pieces := []string{"(", ")", "a", "xY", "<=", "-", ".", "|", "||", "|a b|", "0", "1", "07", "10", "1.5", "0.0", ":", ":k", "\"", "\"\"", "\"a\"", " ", "\n", "\t", "\r", ";", "; c\n", "\\", "#", "{", "\x00", "\x1f", "\x7f", "\x80", "\xff"}
	var text strings.Builder
	for range r.IntN(12) {
		i := r.IntN(len(pieces))
		// What is always wrong comes less often.
		if i > 26 && r.IntN(4) > 0 {
			i = r.IntN(27)
		}
		text.WriteString(pieces[i])
	}
	return text.String()
}

// P1 and P2: the same calls give the same answers; and those are the document's, whatever the text is.
func TestP2SameCalls(t *testing.T) {
	list := forms()
	r := rand.New(rand.NewPCG(7, 1))
	right, wrong := 0, 0
	for range 60000 {
		text := someText(r)
		tokens, at, ok := tokensBy(list, text)
		if ok {
			right++
			reads(t, text, tokens...)
		} else {
			wrong++
			failsBehind(t, text, at)
		}
		symbolBy(t, list, text)
		if t.Failed() {
			t.FailNow()
		}
	}
	if right < 5000 || wrong < 5000 {
		t.Errorf("%d texts are right, %d wrong", right, wrong)
	}
}

// failsBehind tells an error, if a text isn't wrong at the first byte that can't stand where it does: with all ahead of it, and something behind, it reads, and whatever is behind it, it doesn't.
func failsBehind(t *testing.T, text string, begin int) {
	t.Helper()
	_, f := lex.Read([]byte(text))
	fails(t, text, f.At)
	if f.At < begin || f.At > len(text) {
		t.Errorf("%q: at %d, the token begins at %d", text, f.At, begin)
		return
	}
	can := false
	for _, c := range completions {
		_, g := lex.Read([]byte(text[:f.At] + c))
		can = can || g.Code == api.OK
		if f.At < len(text) {
			fails(t, text[:f.At+1]+c, f.At)
		}
	}
	if !can {
		t.Errorf("%q: at %d, but what is ahead of it is wrong already", text, f.At)
	}
}

// symbolBy holds how a name stands in a text against the words of the document.
func symbolBy(t *testing.T, list []form, s string) {
	t.Helper()
	for _, text := range []string{s, "|" + s + "|"} {
		tokens, _, ok := tokensBy(list, text)
		if ok && len(tokens) == 1 && tokens[0].Kind == api.TokSymbol && tokens[0].Text == s {
			symbol(t, s, text, true)
			return
		}
	}
	symbol(t, s, "", false)
}
