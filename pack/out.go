package pack

import (
	"slices"

	"steelyard/api"
)

// Out puts things one behind the other; its zero value has no bytes.
type Out struct {
	room *[]byte
	size int
}

// Done gives the bytes that were put.
func (o *Out) Done() []byte {
	if o.room == nil {
		return nil
	}
	return slices.Clone((*o.room)[:o.size])
}

// Int puts a number.
func (o *Out) Int(n int) { o.number(uint64(n), intBytes) }

// Flag puts a truth.
func (o *Out) Flag(is bool) {
	if is {
		o.add(1)
	} else {
		o.add(0)
	}
}

// Bytes puts bytes.
func (o *Out) Bytes(b []byte) {
	o.Int(len(b))
	o.add(b...)
}

// Ratio puts a rational number.
func (o *Out) Ratio(x api.Ratio) {
	o.Flag(x.Num.Neg)
	Put(o, x.Num.Mag, o.limb)
	Put(o, x.Den, o.limb)
}

// Delta puts a number with a delta.
func (o *Out) Delta(x api.Delta) {
	o.Ratio(x.A)
	o.Ratio(x.B)
}

// limb puts a limb.
func (o *Out) limb(n uint32) { o.number(uint64(n), limbBytes) }

// number puts the last so many bytes of a number, that of the greatest weight first.
func (o *Out) number(n uint64, size int) {
	var b [intBytes]byte
	for i := range slices.Backward(b[:]) {
		b[i] = byte(n)
		n >>= 8
	}
	o.add(b[len(b)-size:]...)
}

// add puts bytes as they are.
func (o *Out) add(b ...byte) {
	// Copies of an Out have one room: who finds something put there by another one moves to a new one.
	if o.room == nil || len(*o.room) != o.size {
		all := o.Done()
		o.room = &all
	}
	*o.room = append(*o.room, b...)
	o.size = len(*o.room)
}
