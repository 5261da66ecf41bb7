package pack_test

import (
	"bytes"
	"fmt"
	"math/rand/v2"
	"slices"
	"testing"

	"steelyard/api"
	"steelyard/pack"
	"steelyard/ratio"
)

// Rule 4: an In doesn't change, and doesn't keep, the bytes it is made of.
func TestInKeepsNothing(t *testing.T) {
	b := join(numberBytes(2), []byte("ab"), ratioBytes(ratio.Of(-5)), numberBytes(1), numberBytes(7))
	kept := slices.Clone(b)
	in := pack.From(b)
	other := pack.From(b)
	clear(b)
	same(t, "Bytes", in.Bytes(), []byte("ab"))
	if x, list := in.Ratio(), pack.Take(in, 8, in.Int); ratio.Text(x) != "-5" || !slices.Equal(list, []int{7}) || in.Done() != api.OK {
		t.Errorf("%v and %v", x, list)
	}
	if bytes.ContainsFunc(b, func(r rune) bool { return r != 0 }) {
		t.Error("the bytes are changed")
	}
	copy(b, kept)
	text := other.Bytes()
	text[0] = 'z'
	same(t, "the bytes it was made of", b, kept)
}

// Who writes over all the memory of what was taken changes nothing of what is taken then, nor of what was.
func TestTakenIsNewMemory(t *testing.T) {
	whole := join(numberBytes(3), []byte("abc"), numberBytes(0), numberBytes(2), []byte("de"), []byte{1})
	in := pack.From(whole)
	spoil := func(b []byte) {
		b = b[:cap(b)]
		for i := range b {
			b[i] = 0xdd
		}
	}
	first := in.Bytes()
	same(t, "first", first, []byte("abc"))
	spoil(first)
	_ = append(first, 9, 9, 9, 9, 9, 9, 9, 9, 9)
	second := in.Bytes()
	same(t, "second", second, nil)
	_ = append(second, 9, 9, 9, 9, 9, 9, 9, 9, 9)
	third := in.Bytes()
	same(t, "third", third, []byte("de"))
	spoil(first)
	same(t, "third", third, []byte("de"))
	spoil(third)
	if !in.Flag() || in.Done() != api.OK {
		t.Error("what was left is changed")
	}
}

// The lists of a number that was taken, and of another one, share no memory.
func TestTakenListsShareNothing(t *testing.T) {
	x := made(true, api.Nat{1, 2, 3}, api.Nat{0, 0, 1})
	number := api.Delta{A: x, B: made(false, api.Nat{9, 8}, api.Nat{0, 1})}
	in := pack.From(put(func(o *pack.Out) { pack.Put(o, []api.Delta{number, number}, o.Delta) }))
	list := pack.Take(in, 34, in.Delta)
	if in.Done() != api.OK || len(list) != 2 {
		t.Fatalf("%v", list)
	}
	var parts []api.Nat
	for _, y := range list {
		parts = append(parts, y.A.Num.Mag, y.A.Den, y.B.Num.Mag, y.B.Den)
	}
	for i, part := range parts {
		part = part[:cap(part)]
		for j := range part {
			part[j] = uint32(100 + i)
		}
	}
	for i, part := range parts {
		if slices.ContainsFunc(part, func(limb uint32) bool { return limb != uint32(100+i) }) {
			t.Errorf("list %d shares memory", i)
		}
	}
}

// randomBytes gives bytes that are taken rightly now and then: many are 0 and 1.
func randomBytes(r *rand.Rand) []byte {
	b := make([]byte, r.IntN(120))
	for i := range b {
		switch r.IntN(12) {
		case 0:
			b[i] = byte(r.Uint32())
		case 1:
			b[i] = byte(r.IntN(8))
		}
	}
	return b
}

// allTaken gives a text of what is taken of bytes, by some calls in some order.
func allTaken(r *rand.Rand, b []byte) string {
	in := pack.From(b)
	said := ""
	say := func(things ...any) { said += fmt.Sprintln(things...) }
	for range 12 {
		switch least := r.IntN(20) - 3; r.IntN(7) {
		case 0:
			say(in.Int())
		case 1:
			say(in.Count(least))
		case 2:
			say(in.Flag())
		case 3:
			say(in.Bytes())
		case 4:
			say(in.Ratio())
		case 5:
			say(in.Delta())
		case 6:
			say(pack.Take(in, least, in.Flag))
		}
		say(in.Wrong(), in.Done())
	}
	return said
}

// P1 and P2: no call panics, all end, and the same calls give the same answers.
func TestP1AndP2(t *testing.T) {
	defer func() {
		if e := recover(); e != nil {
			t.Errorf("a call panics: %v", e)
		}
	}()
	bytesOf := rand.New(rand.NewPCG(5, 6))
	for i := range uint64(4000) {
		b := randomBytes(bytesOf)
		kept := slices.Clone(b)
		first := allTaken(rand.New(rand.NewPCG(7, i)), b)
		again := allTaken(rand.New(rand.NewPCG(7, i)), b)
		if first != again {
			t.Errorf("% x: %s, then %s", b, first, again)
		}
		same(t, "what is handed in", b, kept)
	}
}

// Where a thing is taken of any bytes, they are those of the thing: each has one form.
func TestOneForm(t *testing.T) {
	r := rand.New(rand.NewPCG(8, 9))
	taken := 0
	for range 20000 {
		b := randomBytes(r)
		in := pack.From(b)
		x, is, text := in.Ratio(), in.Flag(), in.Bytes()
		if in.Wrong() {
			continue
		}
		taken++
		again := put(func(o *pack.Out) {
			o.Ratio(x)
			o.Flag(is)
			o.Bytes(text)
		})
		same(t, "what is put again", again, b[:min(len(again), len(b))])
	}
	if taken == 0 {
		t.Error("nothing was taken")
	}
}

// P1: no room is made for things that a count only tells of.
func TestP1CountThatLies(t *testing.T) {
	in := pack.From(join(numberBytes(1<<20), []byte{1}, bytes.Repeat([]byte{2}, 1<<20)))
	list := pack.Take(in, 1, func() [1 << 22]byte {
		in.Flag()
		return [1 << 22]byte{}
	})
	if len(list) != 0 || !in.Wrong() {
		t.Errorf("%d things", len(list))
	}
}
