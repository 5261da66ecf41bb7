package pack

import (
	"slices"

	"steelyard/api"
	"steelyard/ratio"
)

// In takes things one behind the other.
type In struct {
	left  []byte
	wrong bool
}

// From gives an In of bytes.
func From(b []byte) *In { return &In{left: slices.Clone(b)} }

// Wrong tells whether something was wrong.
func (in *In) Wrong() bool { return in.wrong }

// Done tells whether all was right, and nothing is left.
func (in *In) Done() api.Errno {
	if in.wrong || len(in.left) > 0 {
		return api.ErrForm
	}
	return api.OK
}

// Int takes a number.
func (in *In) Int() int { return int(in.number(intBytes)) }

// Count takes a number of things, each of so many bytes at least.
func (in *In) Count(least int) int {
	n := in.Int()
	// A product of both might wrap round.
	if n < 0 || n > len(in.left)/max(least, 1) {
		in.fail()
		return 0
	}
	return n
}

// Flag takes a truth.
func (in *In) Flag() bool {
	n := in.number(1)
	if n > 1 {
		in.fail()
	}
	return n == 1
}

// Bytes takes bytes.
func (in *In) Bytes() []byte { return in.cut(in.Count(1)) }

// Ratio takes a rational number.
func (in *In) Ratio() api.Ratio {
	var x api.Ratio
	x.Num.Neg = in.Flag()
	x.Num.Mag = Take(in, limbBytes, in.limb)
	x.Den = Take(in, limbBytes, in.limb)
	if in.wrong || !ratio.Right(x) {
		in.fail()
		return api.Ratio{}
	}
	return x
}

// Delta takes a number with a delta.
func (in *In) Delta() api.Delta {
	x := api.Delta{A: in.Ratio(), B: in.Ratio()}
	if in.wrong {
		return api.Delta{}
	}
	return x
}

// limb takes a limb.
func (in *In) limb() uint32 { return uint32(in.number(limbBytes)) }

// number takes a number of so many bytes, that of the greatest weight first.
func (in *In) number(size int) uint64 {
	n := uint64(0)
	for _, b := range in.cut(size) {
		n = n<<8 | uint64(b)
	}
	return n
}

// cut takes so many bytes as they are; none, and it is wrong, if fewer are left.
func (in *In) cut(size int) []byte {
	if size > len(in.left) {
		in.fail()
		return nil
	}
	// Its room ends where it does: who appends to what was taken writes over nothing that is left.
	part := in.left[:size:size]
	in.left = in.left[size:]
	return part
}

// fail makes it wrong for ever: with nothing left, all that is taken from now on is nothing.
func (in *In) fail() { *in = In{wrong: true} }
