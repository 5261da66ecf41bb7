package pack_test

import (
	"bytes"
	"math"
	"slices"
	"testing"

	"steelyard/api"
	"steelyard/pack"
	"steelyard/ratio"
)

func TestP42From(t *testing.T) {
	for _, b := range [][]byte{nil, {}} {
		if in := pack.From(b); in.Wrong() || in.Done() != api.OK {
			t.Error("no bytes: wrong, or something is left")
		}
	}
	in := pack.From([]byte{1, 0})
	if in.Wrong() || in.Done() != api.ErrForm {
		t.Error("nothing was taken: wrong, or nothing is left")
	}
	// To ask Done makes nothing wrong.
	if in.Wrong() || !in.Flag() || in.Wrong() || in.Done() != api.ErrForm || in.Flag() || in.Wrong() || in.Done() != api.OK {
		t.Error("two truths")
	}
	if in.Flag() || !in.Wrong() || in.Done() != api.ErrForm {
		t.Error("a third truth")
	}
}

// Each thing takes just its bytes; with fewer it is wrong, whatever their number is.
func TestP42TooFew(t *testing.T) {
	for _, c := range takes() {
		if c.bytes == nil {
			continue
		}
		in := pack.From(append(slices.Clone(c.bytes), 1))
		if c.zero(in) || in.Wrong() || in.Done() != api.ErrForm || !in.Flag() || in.Done() != api.OK {
			t.Errorf("%s: of %d bytes", c.name, len(c.bytes))
		}
		for n := range len(c.bytes) {
			in := pack.From(c.bytes[:n])
			if !c.zero(in) || !in.Wrong() {
				t.Errorf("%s: of %d bytes, which are too few", c.name, n)
			}
			stuckWrong(t, c.name, in)
		}
	}
	for n := range 8 {
		in := pack.From(make([]byte, n))
		if in.Count(1) != 0 || !in.Wrong() {
			t.Errorf("Count of %d bytes, which are too few", n)
		}
	}
}

func TestP42Flag(t *testing.T) {
	for n := range 256 {
		in := pack.From([]byte{byte(n), 1, 1, 1, 1, 1, 1, 1, 1, 1})
		if is := in.Flag(); is != (n == 1) || in.Wrong() != (n > 1) {
			t.Errorf("the byte %d: %v, wrong: %v", n, is, in.Wrong())
		}
		if n > 1 {
			stuckWrong(t, "Flag", in)
		}
	}
}

func TestP42Count(t *testing.T) {
	for _, c := range []struct {
		n, least, left int
		right          bool
	}{
		{0, 1, 0, true}, {0, 0, 0, true}, {0, math.MaxInt, 0, true}, {0, math.MinInt, 5, true},
		{1, 1, 0, false}, {1, 1, 1, true}, {2, 1, 1, false}, {5, 1, 5, true}, {6, 1, 5, false}, {3, 1, 5, true},
		// Below 1 least is 1.
		{5, 0, 5, true}, {6, 0, 5, false}, {5, -1, 5, true}, {6, -3, 5, false}, {5, math.MinInt, 5, true}, {6, math.MinInt, 5, false}, {math.MaxInt, 0, 5, false},
		{2, 2, 4, true}, {2, 2, 3, false}, {2, 2, 5, true}, {3, 2, 5, false}, {3, 8, 24, true}, {3, 8, 23, false},
		{1, 34, 34, true}, {1, 34, 33, false}, {1, math.MaxInt, 100, false}, {2, math.MaxInt, 100, false},
		{-1, 1, 100, false}, {-1, 0, 0, false}, {-1, -1, 100, false}, {math.MinInt, 1, 100, false}, {-100, 1, 100, false},
		// The products of these wrap round, to a number that isn't above what is left.
		{1 << 62, 4, 100, false}, {math.MaxInt, 2, 100, false}, {1 << 61, 8, 0, false}, {math.MaxInt, math.MaxInt, 100, false}, {math.MinInt, 2, 100, false}, {1 << 32, 1 << 32, 8, false},
	} {
		in := pack.From(join(numberBytes(c.n), bytes.Repeat([]byte{1}, c.left)))
		want := 0
		if c.right {
			want = c.n
		}
		if got := in.Count(c.least); got != want || in.Wrong() == c.right {
			t.Errorf("%d of %d bytes each of %d: %d, wrong: %v", c.n, c.least, c.left, got, in.Wrong())
		}
		if !c.right {
			stuckWrong(t, "Count", in)
		} else if c.left > 0 && !in.Flag() {
			t.Errorf("%d of %d bytes each of %d: it takes more than the number", c.n, c.least, c.left)
		}
	}
}

func TestP42Bytes(t *testing.T) {
	for _, n := range []int{-1, 4, math.MaxInt, math.MinInt, 1 << 32, -1 << 62} {
		in := pack.From(join(numberBytes(n), []byte{1, 1, 1}))
		if b := in.Bytes(); len(b) != 0 || !in.Wrong() {
			t.Errorf("%d bytes of three: % x, wrong: %v", n, b, in.Wrong())
		}
		stuckWrong(t, "Bytes", in)
	}
	for n := range 4 {
		in := pack.From(join(numberBytes(n), []byte{5, 6, 7}))
		same(t, "Bytes", in.Bytes(), []byte{5, 6, 7}[:n])
		if in.Wrong() || (in.Done() == api.OK) != (n == 3) {
			t.Errorf("%d bytes of three: wrong, or another number is left", n)
		}
	}
}

func TestP42Ratio(t *testing.T) {
	for _, x := range oddRatios() {
		in := pack.From(append(ratioBytes(x), make([]byte, 40)...))
		if y := in.Ratio(); !equal(y, api.Ratio{}) || !in.Wrong() {
			t.Errorf("%v isn't in its one form: %v, wrong: %v", x, y, in.Wrong())
		}
		stuckWrong(t, "Ratio", in)
	}
	for _, n := range []int{-1, 3, math.MaxInt, math.MinInt, 1 << 62, 1<<62 + 1, -1 << 62} {
		for _, b := range [][]byte{
			join([]byte{0}, numberBytes(n), make([]byte, 11)),
			join([]byte{0}, limbsBytes(api.Nat{1}), numberBytes(n), []byte{0, 0, 0, 5, 0, 0, 0}),
		} {
			in := pack.From(b)
			if x := in.Ratio(); !equal(x, api.Ratio{}) || !in.Wrong() {
				t.Errorf("%d limbs: %v, wrong: %v", n, x, in.Wrong())
			}
			stuckWrong(t, "limbs", in)
		}
	}
	// A sign that is no truth.
	b := ratioBytes(ratio.Of(5))
	b[0] = 2
	in := pack.From(b)
	if x := in.Ratio(); !equal(x, api.Ratio{}) || !in.Wrong() {
		t.Errorf("a sign 2: %v, wrong: %v", x, in.Wrong())
	}
}

func TestP42Delta(t *testing.T) {
	right := ratio.Of(7)
	for _, odd := range oddRatios() {
		for _, x := range []api.Delta{{A: odd, B: right}, {A: right, B: odd}} {
			in := pack.From(append(deltaBytes(x), 1))
			if y := in.Delta(); !equalDelta(y, api.Delta{}) || !in.Wrong() {
				t.Errorf("%v: %v, wrong: %v", x, y, in.Wrong())
			}
			stuckWrong(t, "Delta", in)
		}
	}
}

func TestP42TakeCounts(t *testing.T) {
	for _, c := range []struct {
		n, least, calls int
		right           bool
	}{
		// Of 24 bytes: numbers, of which there are three.
		{0, 8, 0, true}, {0, 100, 0, true}, {3, 8, 3, true}, {2, 8, 2, true}, {3, 1, 3, true}, {3, 0, 3, true}, {3, -1, 3, true}, {3, math.MinInt, 3, true}, {1, 24, 1, true},
		// More than what is left, by least: nothing is taken.
		{4, 8, 0, false}, {3, 9, 0, false}, {25, 1, 0, false}, {25, 0, 0, false}, {1, 25, 0, false}, {-1, 8, 0, false}, {math.MinInt, 1, 0, false}, {math.MaxInt, 1, 0, false}, {1 << 61, 8, 0, false},
		// As many by least, but not by what they are: the fourth one is wrong, and the last one that is taken.
		{4, 1, 4, false}, {24, 1, 4, false}, {24, 0, 4, false},
	} {
		in := pack.From(join(numberBytes(c.n), bytes.Repeat(numberBytes(6), 3)))
		calls := 0
		list := pack.Take(in, c.least, func() int {
			calls++
			return in.Int()
		})
		want := make([]int, 0)
		if c.right {
			want = slices.Repeat([]int{6}, c.n)
		}
		if !slices.Equal(list, want) || calls != c.calls || in.Wrong() == c.right {
			t.Errorf("%d of %d bytes: %v, calls: %d, wrong: %v", c.n, c.least, list, calls, in.Wrong())
		}
		if !c.right {
			stuckWrong(t, "Take", in)
		}
	}
}

func TestP42TakeWrong(t *testing.T) {
	// The first one, one between, and the last one are wrong; nothing of the others is told.
	for place := range 4 {
		flags := []byte{1, 1, 1, 1}
		flags[place] = 2
		in := pack.From(join(numberBytes(4), flags, []byte{1, 1}))
		calls := 0
		list := pack.Take(in, 1, func() bool {
			calls++
			return in.Flag()
		})
		if len(list) != 0 || calls != place+1 || !in.Wrong() {
			t.Errorf("%d: %v, calls: %d", place, list, calls)
		}
		stuckWrong(t, "Take", in)
	}
	// It is wrong ahead: nothing is asked.
	in := pack.From(numberBytes(0))
	in.Flag()
	in.Int()
	if !in.Wrong() {
		t.Fatal("not wrong")
	}
	calls := 0
	if list := pack.Take(in, 1, func() int { calls++; return 3 }); len(list) != 0 || calls != 0 {
		t.Errorf("wrong ahead: %v, calls: %d", list, calls)
	}
	// The last take makes it wrong, though it tells something.
	in = pack.From(join(numberBytes(2), []byte{1, 7}))
	if list := pack.Take(in, 1, func() int { in.Flag(); return 3 }); len(list) != 0 || !in.Wrong() {
		t.Errorf("wrong at the end: %v", list)
	}
}

func TestP42TakeThings(t *testing.T) {
	// A take that takes nothing is called as often as the count tells.
	in := pack.From(join(numberBytes(3), []byte{1, 1, 1}))
	n := 0
	if list := pack.Take(in, 1, func() int { n++; return n }); !slices.Equal(list, []int{1, 2, 3}) || in.Wrong() || in.Done() != api.ErrForm {
		t.Errorf("%v", list)
	}
	// Lists of lists.
	lists := [][]int{{1, 2}, nil, {3}}
	in = pack.From(put(func(o *pack.Out) {
		pack.Put(o, lists, func(list []int) { pack.Put(o, list, o.Int) })
	}))
	got := pack.Take(in, 8, func() []int { return pack.Take(in, 8, in.Int) })
	if !slices.EqualFunc(got, lists, slices.Equal[[]int]) || in.Done() != api.OK {
		t.Errorf("%v", got)
	}
}

// P4.3: what is taken of what was put is it, alone and among others.
func TestP43(t *testing.T) {
	list := ratios()
	numbersPut := numbers()
	o := &pack.Out{}
	for i, n := range numbersPut {
		o.Int(n)
		o.Flag(n%3 == 0)
		o.Bytes(numberBytes(n)[:i%9])
		o.Ratio(list[i%len(list)])
		o.Delta(api.Delta{A: list[(i+1)%len(list)], B: list[(i*5)%len(list)]})
		pack.Put(o, numbersPut[:i], o.Int)
	}
	pack.Put(o, list, o.Ratio)
	in := pack.From(o.Done())
	for i, n := range numbersPut {
		if in.Int() != n || in.Flag() != (n%3 == 0) || !slices.Equal(in.Bytes(), numberBytes(n)[:i%9]) || !equal(in.Ratio(), list[i%len(list)]) {
			t.Errorf("%d isn't what was put", i)
		}
		x := in.Delta()
		if !equal(x.A, list[(i+1)%len(list)]) || !equal(x.B, list[(i*5)%len(list)]) {
			t.Errorf("%d: %v isn't what was put", i, x)
		}
		if many := pack.Take(in, 8, in.Int); !slices.Equal(many, numbersPut[:i]) {
			t.Errorf("%d: %v isn't what was put", i, many)
		}
	}
	if in.Wrong() || in.Done() != api.ErrForm {
		t.Error("the last list isn't left")
	}
	if many := pack.Take(in, 17, in.Ratio); !slices.EqualFunc(many, list, equal) || in.Done() != api.OK {
		t.Errorf("%v isn't what was put", many)
	}
}
