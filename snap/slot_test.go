package snap_test

import (
	"hash/crc32"
	"math"
	"testing"

	"steelyard/disk"
	"steelyard/snap"
)

func TestP61Slot(t *testing.T) {
	for _, sectors := range []int{8, 9} {
		for slot := range 2 {
			for _, size := range []int{0, 1, 63, 64, 65, 127, 128, 129, 191, 192} {
				d := made(t, sectors)
				fix(t, d, slot, 7, 0xA1B2C3D4, text(size, 1))
				whole(t, d, slot, 7, 0xA1B2C3D4, text(size, 1))
				broken(t, d, 1-slot)
			}
		}
	}
}

// Both slots are told, each with its own.
func TestP61BothSlots(t *testing.T) {
	d := made(t, 7)
	fix(t, d, 0, 3, 5, "first")
	fix(t, d, 1, 9, 6, text(100, 2))
	whole(t, d, 0, 3, 5, "first")
	whole(t, d, 1, 9, 6, text(100, 2))
}

func TestP61NoSuchSlot(t *testing.T) {
	d := made(t, 9)
	// What stands behind both slots, or at any other sector, is none.
	for at := range 9 {
		set(t, d, at, head(1, 0, 1, 0))
	}
	whole(t, d, 0, 1, 1, "")
	whole(t, d, 1, 1, 1, "")
	for _, slot := range []int{-1, 2, 3, 8, math.MaxInt, math.MinInt, 1 << 32, 1 << 62} {
		broken(t, d, slot)
	}
}

func TestP61Blank(t *testing.T) {
	for _, sectors := range []int{1, 2, 3, 8, 65536} {
		d := made(t, sectors)
		broken(t, d, 0)
		broken(t, d, 1)
	}
}

// A disk of one sector has slots without any, whatever stands in it.
func TestP61SlotsWithoutSectors(t *testing.T) {
	d := made(t, 1)
	set(t, d, 0, head(1, 0, 4, 0))
	broken(t, d, 0)
	broken(t, d, 1)
	loadsNone(t, d, 4)
}

// Slots of one sector have no bytes, and are whole for all that.
func TestP61SlotsOfOneSector(t *testing.T) {
	for _, sectors := range []int{2, 3} {
		d := made(t, sectors)
		set(t, d, 0, head(4, 0, 8, 0))
		set(t, d, 1, head(5, 0, 9, 0))
		whole(t, d, 0, 4, 8, "")
		whole(t, d, 1, 5, 9, "")
		set(t, d, 0, head(4, 1, 8, crc32.ChecksumIEEE([]byte{'S'})))
		broken(t, d, 0)
	}
}

// The rest of the last sector, and the sectors behind it, are nothing's.
func TestP61Rest(t *testing.T) {
	d := made(t, 8)
	b := []byte(text(70, 3))
	set(t, d, 0, head(2, len(b), 1, crc32.ChecksumIEEE(b)))
	set(t, d, 1, lay(b, 0xEE)...)
	set(t, d, 3, lay([]byte(text(64, 4)), 0)...)
	whole(t, d, 0, 2, 1, string(b))
}

// No byte of a header or of the bytes may be another one; but the formula's, of which any is one.
func TestP61EachByte(t *testing.T) {
	b := text(66, 5)
	for _, slot := range []int{0, 1} {
		d := made(t, 8)
		fix(t, d, slot, 0x0102030405060708, 0x11223344, b)
		at := slot * 4
		right, _ := d.Read(at)
		for i := range right {
			for change := 1; change < 256; change++ {
				wrong := right
				wrong[i] ^= byte(change)
				set(t, d, at, wrong)
				if i < 21 || i > 24 {
					broken(t, d, slot)
				} else {
					whole(t, d, slot, 0x0102030405060708, 0x11223344^uint32(change)<<(8*(24-i)), b)
				}
			}
		}
		set(t, d, at, right)
		for i := range b {
			s, _ := d.Read(at + 1 + i/64)
			wrong := s
			wrong[i%64]++
			set(t, d, at+1+i/64, wrong)
			broken(t, d, slot)
			set(t, d, at+1+i/64, s)
		}
		whole(t, d, slot, 0x0102030405060708, 0x11223344, b)
	}
}

func TestP61Epochs(t *testing.T) {
	for _, epoch := range []uint64{1, 2, 255, 256, 1 << 32, most - 1, most} {
		d := made(t, 4)
		fix(t, d, 1, epoch, 3, "here")
		whole(t, d, 1, int(epoch), 3, "here")
		loads(t, d, 3, "here", int(epoch))
	}
	for _, epoch := range []uint64{0, most + 1, most + 256, 1<<63 - 1, 1 << 63, 1<<63 + 1, math.MaxUint64} {
		d := made(t, 4)
		fix(t, d, 1, epoch, 3, "here")
		broken(t, d, 1)
		loadsNone(t, d, 3)
	}
}

// Two epochs make no header, whichever of them is the greater one.
func TestP61TwoEpochs(t *testing.T) {
	for _, c := range []struct{ first, last uint64 }{{1, 2}, {2, 1}, {1, 0}, {0, 1}, {most, 1}, {511, 255}} {
		d := made(t, 4)
		s, other := head(c.first, 0, 1, 0), head(c.last, 0, 1, 0)
		copy(s[56:], other[56:])
		set(t, d, 0, s)
		broken(t, d, 0)
	}
}

// A slot has no room for a byte that stands behind it, though the CRC-32 have it.
func TestP61NoRoom(t *testing.T) {
	for slot := range 2 {
		for _, more := range []int{1, 63, 64} {
			d := made(t, 7)
			b := []byte(text(128, 6))
			at := slot * 3
			next := disk.Sector{9, 8, 7, 63: 6}
			set(t, d, at+1, append(lay(b, 0), next)...)
			b = append(b, next[:more]...)
			set(t, d, at, head(1, len(b), 1, crc32.ChecksumIEEE(b)))
			broken(t, d, slot)
			set(t, d, at, head(1, 128, 1, crc32.ChecksumIEEE(b[:128])))
			whole(t, d, slot, 1, 1, string(b[:128]))
		}
	}
}

// Sizes that an int doesn't hold, or whose low bits are those of the bytes.
func TestP61GreatSizes(t *testing.T) {
	for _, size := range []int{3 + 1<<8, 3 + 1<<16, 3 + 1<<32, 3 + 1<<62, 3 + math.MinInt, -1, math.MinInt, math.MaxInt} {
		d := made(t, 8)
		fix(t, d, 0, 1, 1, "two")
		set(t, d, 0, head(1, size, 1, crc32.ChecksumIEEE([]byte("two"))))
		broken(t, d, 0)
		set(t, d, 0, head(1, size, 1, 0))
		broken(t, d, 0)
	}
}

// The greatest disk's slots are as others.
func TestP61GreatestDisk(t *testing.T) {
	d := made(t, 65536)
	b := text(snap.Room(65536), 7)
	fix(t, d, 1, 5, 5, b)
	whole(t, d, 1, 5, 5, b)
	broken(t, d, 0)
}
