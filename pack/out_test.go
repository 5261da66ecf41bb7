package pack_test

import (
	"math"
	"slices"
	"testing"

	"steelyard/api"
	"steelyard/pack"
	"steelyard/ratio"
)

func TestP41Int(t *testing.T) {
	for _, c := range []struct {
		n    int
		want []byte
	}{
		{0, []byte{0, 0, 0, 0, 0, 0, 0, 0}},
		{-1, []byte{255, 255, 255, 255, 255, 255, 255, 255}},
		{-2, []byte{255, 255, 255, 255, 255, 255, 255, 254}},
		{258, []byte{0, 0, 0, 0, 0, 0, 1, 2}},
		{0x0102030405060708, []byte{1, 2, 3, 4, 5, 6, 7, 8}},
		{math.MaxInt, []byte{127, 255, 255, 255, 255, 255, 255, 255}},
		{math.MinInt, []byte{128, 0, 0, 0, 0, 0, 0, 0}},
	} {
		same(t, "Int", put(func(o *pack.Out) { o.Int(c.n) }), c.want)
	}
	for _, n := range numbers() {
		same(t, "Int", put(func(o *pack.Out) { o.Int(n) }), numberBytes(n))
	}
}

// Example 1: the number 1.
func TestExample(t *testing.T) {
	same(t, "1", put(func(o *pack.Out) { o.Int(1) }), []byte{0, 0, 0, 0, 0, 0, 0, 1})
}

func TestP41Flag(t *testing.T) {
	same(t, "true", put(func(o *pack.Out) { o.Flag(true) }), []byte{1})
	same(t, "false", put(func(o *pack.Out) { o.Flag(false) }), []byte{0})
}

func TestP41Bytes(t *testing.T) {
	long := make([]byte, 70000)
	for i := range long {
		long[i] = byte(i * 7)
	}
	for _, b := range [][]byte{nil, {}, {0}, {255}, []byte("ab"), long} {
		same(t, "Bytes", put(func(o *pack.Out) { o.Bytes(b) }), join(numberBytes(len(b)), b))
	}
}

func TestP41Ratio(t *testing.T) {
	for _, c := range []struct {
		x    api.Ratio
		want []byte
	}{
		{api.Ratio{}, make([]byte, 17)},
		{ratio.Of(-3), []byte{1, 0, 0, 0, 0, 0, 0, 0, 1, 0, 0, 0, 3, 0, 0, 0, 0, 0, 0, 0, 0}},
		{made(false, api.Nat{0x01020304, 5}, api.Nat{6}), []byte{0, 0, 0, 0, 0, 0, 0, 0, 2, 1, 2, 3, 4, 0, 0, 0, 5, 0, 0, 0, 0, 0, 0, 0, 1, 0, 0, 0, 6}},
	} {
		same(t, "Ratio", put(func(o *pack.Out) { o.Ratio(c.x) }), c.want)
	}
	// What isn't in its one form is put as it is, too.
	for _, x := range append(ratios(), oddRatios()...) {
		same(t, "Ratio", put(func(o *pack.Out) { o.Ratio(x) }), ratioBytes(x))
	}
}

func TestP41Delta(t *testing.T) {
	list := append(ratios(), oddRatios()...)
	for i, x := range list {
		number := api.Delta{A: x, B: list[(7*i+3)%len(list)]}
		same(t, "Delta", put(func(o *pack.Out) { o.Delta(number) }), deltaBytes(number))
	}
}

func TestP41Put(t *testing.T) {
	for _, list := range [][]int{nil, {}, {7}, {7, 8}, numbers()} {
		want := numberBytes(len(list))
		for _, n := range list {
			want = join(want, numberBytes(n))
		}
		same(t, "numbers", put(func(o *pack.Out) { pack.Put(o, list, o.Int) }), want)
	}
	same(t, "truths", put(func(o *pack.Out) { pack.Put(o, []bool{true, false, true}, o.Flag) }), join(numberBytes(3), []byte{1, 0, 1}))
	third := made(false, api.Nat{1}, api.Nat{3})
	same(t, "ratios", put(func(o *pack.Out) { pack.Put(o, []api.Ratio{third, {}}, o.Ratio) }), join(numberBytes(2), ratioBytes(third), make([]byte, 17)))
	lists := put(func(o *pack.Out) {
		pack.Put(o, [][]int{{1, 2}, nil, {3}}, func(list []int) { pack.Put(o, list, o.Int) })
	})
	want := []byte(nil)
	for _, n := range []int{3, 2, 1, 2, 0, 1, 3} {
		want = join(want, numberBytes(n))
	}
	same(t, "lists", lists, want)
	// A put that puts nothing, or that puts elsewhere: how many there are stands there still.
	other := &pack.Out{}
	same(t, "nothing", put(func(o *pack.Out) { pack.Put(o, []int{4, 5}, other.Int) }), numberBytes(2))
	same(t, "elsewhere", other.Done(), join(numberBytes(4), numberBytes(5)))
}

// All things stand one behind the other, in the order in which they were put.
func TestP41Order(t *testing.T) {
	x := api.Delta{A: ratio.Of(-1 << 33), B: made(false, api.Nat{1}, api.Nat{3})}
	o := &pack.Out{}
	var want []byte
	for range 50 {
		o.Flag(true)
		o.Int(-9)
		o.Delta(x)
		o.Bytes([]byte("xyz"))
		o.Ratio(x.B)
		pack.Put(o, []int{1}, o.Int)
		o.Flag(false)
		want = join(want, []byte{1}, numberBytes(-9), deltaBytes(x), numberBytes(3), []byte("xyz"), ratioBytes(x.B), numberBytes(1), numberBytes(1), []byte{0})
		same(t, "all", o.Done(), want)
	}
}

func TestP41Done(t *testing.T) {
	o := &pack.Out{}
	same(t, "nothing", o.Done(), nil)
	same(t, "nothing", o.Done(), nil)
	o.Flag(true)
	first := o.Done()
	same(t, "once", first, []byte{1})
	same(t, "twice", o.Done(), []byte{1})
	o.Flag(false)
	same(t, "more", o.Done(), []byte{1, 0})
	same(t, "what was told ahead", first, []byte{1})
}

// Rule 4: what Done gives is new memory, and what is put isn't kept.
func TestOutMemory(t *testing.T) {
	o := &pack.Out{}
	b := []byte("abc")
	x := made(false, api.Nat{1, 2}, api.Nat{3})
	list := []int{4, 5}
	o.Bytes(b)
	o.Ratio(x)
	pack.Put(o, list, o.Int)
	want := join(numberBytes(3), []byte("abc"), ratioBytes(x), numberBytes(2), numberBytes(4), numberBytes(5))
	if string(b) != "abc" || !equal(x, made(false, api.Nat{1, 2}, api.Nat{3})) || !slices.Equal(list, []int{4, 5}) {
		t.Error("what is put is changed")
	}
	b[0], x.Num.Mag[0], x.Den[0], list[0] = 0, 0, 0, 0
	got := o.Done()
	same(t, "what was put is changed then", got, want)
	for i := range got[:cap(got)] {
		got[:cap(got)][i] = 0xdd
	}
	same(t, "what was told is changed then", o.Done(), want)
	o.Flag(true)
	same(t, "and more is put", o.Done(), join(want, []byte{1}))
}

// P2: what a copy of an Out has hangs on nothing that is put to another one.
func TestP2OutCopies(t *testing.T) {
	for many := range 40 {
		o := &pack.Out{}
		var want []byte
		for i := range many {
			o.Flag(i%2 == 0)
			want = append(want, byte(1-i%2))
		}
		first, second := *o, *o
		first.Int(1)
		second.Int(2)
		o.Int(3)
		back := *o
		*o = first
		o.Int(4)
		first.Int(5)
		same(t, "first", first.Done(), join(want, numberBytes(1), numberBytes(5)))
		same(t, "second", second.Done(), join(want, numberBytes(2)))
		same(t, "back", back.Done(), join(want, numberBytes(3)))
		same(t, "set back", o.Done(), join(want, numberBytes(1), numberBytes(4)))
	}
}
