package pack_test

import (
	"encoding/binary"
	"math"
	"math/rand/v2"
	"slices"
	"testing"

	"steelyard/api"
	"steelyard/nat"
	"steelyard/pack"
	"steelyard/ratio"
)

// join gives all bytes, one behind the other.
func join(parts ...[]byte) []byte { return slices.Concat(parts...) }

// numberBytes gives a number as bytes, by the words of the document.
func numberBytes(n int) []byte { return binary.BigEndian.AppendUint64(nil, uint64(n)) }

// limbsBytes gives limbs as bytes, by the words of the document.
func limbsBytes(x api.Nat) []byte {
	b := numberBytes(len(x))
	for _, limb := range x {
		b = binary.BigEndian.AppendUint32(b, limb)
	}
	return b
}

// ratioBytes gives a ratio as bytes, by the words of the document.
func ratioBytes(x api.Ratio) []byte {
	sign := []byte{0}
	if x.Num.Neg {
		sign[0] = 1
	}
	return join(sign, limbsBytes(x.Num.Mag), limbsBytes(x.Den))
}

// deltaBytes gives a number with a delta as bytes.
func deltaBytes(x api.Delta) []byte { return join(ratioBytes(x.A), ratioBytes(x.B)) }

// made gives a ratio of its parts, as they are.
func made(neg bool, num, den api.Nat) api.Ratio {
	return api.Ratio{Num: api.Whole{Neg: neg, Mag: num}, Den: den}
}

// equal tells whether ratios are the same, limb by limb.
func equal(x, y api.Ratio) bool {
	return x.Num.Neg == y.Num.Neg && slices.Equal(x.Num.Mag, y.Num.Mag) && slices.Equal(x.Den, y.Den)
}

// equalDelta tells whether numbers with a delta are the same, limb by limb.
func equalDelta(x, y api.Delta) bool { return equal(x.A, y.A) && equal(x.B, y.B) }

// put gives the bytes of what is put to an Out.
func put(do func(o *pack.Out)) []byte {
	o := &pack.Out{}
	do(o)
	return o.Done()
}

// same tells an error, if bytes aren't those that they are to be.
func same(t *testing.T, what string, got, want []byte) {
	t.Helper()
	if !slices.Equal(got, want) {
		t.Errorf("%s: % x, not % x", what, got, want)
	}
}

// numbers gives numbers of all lengths, and the edges.
func numbers() []int {
	list := []int{0, 1, -1, 2, -2, 255, 256, 65535, 65536, 0x0102030405060708, -0x0102030405060708, math.MaxInt32, math.MinInt32, math.MaxInt, math.MinInt, math.MinInt + 1}
	r := rand.New(rand.NewPCG(1, 2))
	for range 100 {
		list = append(list, int(r.Uint64()>>r.IntN(64)), -int(r.Uint64()>>r.IntN(64)))
	}
	return list
}

// ratios gives ratios in their one form, of many lengths.
func ratios() []api.Ratio {
	list := []api.Ratio{
		{}, ratio.Of(1), ratio.Of(-1), ratio.Of(math.MaxInt64), ratio.Of(math.MinInt64),
		made(false, api.Nat{1}, api.Nat{2}), made(true, api.Nat{2}, api.Nat{3}),
		made(true, api.Nat{1}, api.Nat{0, 1}), made(false, api.Nat{0, 0, 1}, api.Nat{0xffffffff}),
		made(false, api.Nat{0x01020304, 0x05060708}, nil),
	}
	r := rand.New(rand.NewPCG(3, 4))
	b := nat.New(100)
	part := func() api.Nat {
		x := nat.Of(1 + r.Uint64N(9))
		for range r.IntN(5) {
			x = b.Mul(x, nat.Of(1+r.Uint64()>>r.IntN(64)))
		}
		return x
	}
	for range 100 {
		list = append(list, ratio.Make(b, r.IntN(2) == 0, part(), part()))
	}
	return list
}

// oddRatios gives ratios that aren't in their one form, of all kinds.
func oddRatios() []api.Ratio {
	return []api.Ratio{
		// 0 below 0, 0 through something
		made(true, nil, nil), made(false, nil, api.Nat{2}), made(true, nil, api.Nat{2}), made(false, nil, api.Nat{1}),
		// through 0, through a 1 that is written out
		made(false, api.Nat{1}, api.Nat{0}), made(false, api.Nat{3}, api.Nat{1}), made(true, api.Nat{1}, api.Nat{1}), made(false, api.Nat{5}, api.Nat{0, 0}),
		// noughts at the end of limbs
		made(false, api.Nat{0}, nil), made(false, api.Nat{1, 0}, nil), made(false, api.Nat{1}, api.Nat{2, 0}), made(true, api.Nat{0, 0}, api.Nat{3}),
		// something divides both
		made(false, api.Nat{2}, api.Nat{2}), made(true, api.Nat{6}, api.Nat{4}), made(false, api.Nat{0, 1}, api.Nat{6}), made(false, api.Nat{0, 3}, api.Nat{0, 5}), made(false, api.Nat{3, 3}, api.Nat{7, 7}),
	}
}

// take is a call that takes a thing: what it is called, the call, which tells whether the thing is the zero value, and bytes of a thing that isn't.
type take struct {
	name  string
	zero  func(in *pack.In) bool
	bytes []byte
}

// takes gives all calls that take a thing.
func takes() []take {
	third := made(true, api.Nat{1}, api.Nat{3})
	two := join(numberBytes(2), numberBytes(7), numberBytes(8))
	return []take{
		{"Int", func(in *pack.In) bool { return in.Int() == 0 }, numberBytes(5)},
		{"Count", func(in *pack.In) bool { return in.Count(0) == 0 }, nil},
		{"Flag", func(in *pack.In) bool { return !in.Flag() }, []byte{1}},
		{"Bytes", func(in *pack.In) bool { return len(in.Bytes()) == 0 }, join(numberBytes(3), []byte("abc"))},
		{"Ratio", func(in *pack.In) bool { return equal(in.Ratio(), api.Ratio{}) }, ratioBytes(third)},
		{"Delta", func(in *pack.In) bool { return equalDelta(in.Delta(), api.Delta{}) }, deltaBytes(api.Delta{A: third, B: third})},
		{"Take", func(in *pack.In) bool { return len(pack.Take(in, 8, in.Int)) == 0 }, two},
	}
}

// stuckWrong tells an error, if an In isn't wrong, or anything that is taken of it isn't the zero value.
func stuckWrong(t *testing.T, what string, in *pack.In) {
	t.Helper()
	for range 2 {
		for _, c := range takes() {
			if !in.Wrong() || in.Done() != api.ErrForm {
				t.Errorf("%s: not wrong ahead of %s", what, c.name)
			}
			if !c.zero(in) {
				t.Errorf("%s: %s takes something, though it is wrong", what, c.name)
			}
		}
		if list := pack.Take(in, 0, func() int { return 9 }); len(list) != 0 {
			t.Errorf("%s: Take takes %v, though it is wrong", what, list)
		}
		if in.Count(math.MinInt) != 0 || in.Count(math.MaxInt) != 0 {
			t.Errorf("%s: Count takes something, though it is wrong", what)
		}
	}
	if !in.Wrong() || in.Done() != api.ErrForm {
		t.Errorf("%s: not wrong in the end", what)
	}
}
