package snap_test

import (
	"bytes"
	"hash/crc32"
	"math"
	"math/rand/v2"
	"slices"
	"testing"

	"steelyard/api"
	"steelyard/disk"
	"steelyard/snap"
)

// Rule 4: what is saved isn't changed, and isn't kept.
func TestHandedIn(t *testing.T) {
	d := made(t, 8)
	b := make([]byte, 100, 200)
	copy(b, text(100, 1))
	copy(b[:200][100:], text(100, 2))
	if code := snap.Save(d, 1, b); code != api.OK {
		t.Fatal(code)
	}
	if string(b) != text(100, 1) || string(b[:200][100:]) != text(100, 2) {
		t.Error("the bytes are changed")
	}
	snap.Sum(b)
	if string(b) != text(100, 1) {
		t.Error("the bytes are changed by Sum")
	}
	clear(b[:200])
	loads(t, d, 1, text(100, 1), 1)
}

// Rule 4: what is told is new memory each time.
func TestNewMemory(t *testing.T) {
	d := made(t, 8)
	saves(t, d, 1, text(100, 1), api.OK)
	for range 2 {
		b, _, _ := snap.Load(d, 1)
		_, _, same, _ := snap.Slot(d, 0)
		clear(b[:cap(b)])
		if string(same) != text(100, 1) {
			t.Error("Load and Slot share memory")
		}
		clear(same[:cap(same)])
		loads(t, d, 1, text(100, 1), 1)
		whole(t, d, 0, 1, 1, text(100, 1))
	}
}

// Rule 3: a list without elements and a nil list are one.
func TestNoBytes(t *testing.T) {
	d, other := made(t, 4), made(t, 4)
	if snap.Save(d, 1, nil) != api.OK || snap.Save(other, 1, []byte{}) != api.OK {
		t.Error("Save")
	}
	if !slices.Equal(d.Sectors(), other.Sectors()) || d.Ops() != 3 || other.Ops() != 3 {
		t.Error("they aren't one")
	}
	loads(t, d, 1, "", 1)
	if snap.Sum(nil) != snap.Sum([]byte{}) {
		t.Error("Sum")
	}
}

// P1: none panics, whatever it is given, and whatever is on the disk.
func TestP1NoPanic(t *testing.T) {
	odd := []int{math.MinInt, math.MinInt + 1, -65536, -2, -1, 0, 1, 2, 3, 4, 65536, 1 << 32, 1 << 62, math.MaxInt}
	for _, n := range odd {
		if snap.Room(n) < 0 {
			t.Errorf("Room(%d)", n)
		}
	}
	for sectors := 1; sectors < 10; sectors++ {
		d := made(t, sectors)
		for _, epoch := range odd {
			for _, size := range odd {
				for at := range sectors {
					set(t, d, at, head(uint64(epoch), size, 0, 0))
				}
				for _, slot := range odd {
					snap.Slot(d, slot)
				}
				snap.Load(d, 0)
				snap.Save(d, 0, nil)
			}
		}
	}
}

// slotBy tells by the words of the document what a slot has.
func slotBy(list []disk.Sector, slot int) (epoch uint64, formula uint32, b []byte, ok bool) {
	list = list[slot*(len(list)/2):][:len(list)/2]
	if len(list) == 0 {
		return 0, 0, nil, false
	}
	var all []byte
	for _, s := range list[1:] {
		all = append(all, s[:]...)
	}
	number := func(b []byte) (n uint64) {
		for _, x := range b {
			n = n*256 + uint64(x)
		}
		return n
	}
	h := list[0]
	epoch = number(h[5:13])
	size := number(h[13:21])
	formula = uint32(number(h[21:25]))
	if string(h[:4]) != "STY1" || h[4] != 1 || epoch < 1 || epoch > most || number(h[56:]) != epoch || size > uint64(len(all)) {
		return 0, 0, nil, false
	}
	if !bytes.Equal(h[29:56], make([]byte, 27)) || crc32.ChecksumIEEE(all[:size]) != uint32(number(h[25:29])) {
		return 0, 0, nil, false
	}
	return epoch, formula, all[:size], true
}

// hit changes something on a disk: a byte, a header, or a copy of another sector.
func hit(t *testing.T, r *rand.Rand, d *disk.Disk) {
	at := r.IntN(d.Len())
	s, _ := d.Read(at)
	switch r.IntN(3) {
	case 0:
		s[r.IntN(64)] ^= byte(1 + r.IntN(255))
	case 1:
		s = head(uint64(r.IntN(4)), 0, uint32(r.IntN(3)), 0)
	case 2:
		s, _ = d.Read(r.IntN(d.Len()))
	}
	set(t, d, at, s)
}

// P2: the same calls give the same answers; and those are the document's, whatever is on the disk.
func TestP2SameCalls(t *testing.T) {
	for seed := range uint64(300) {
		r := rand.New(rand.NewPCG(seed, 7))
		d := made(t, 1+r.IntN(9))
		for i := range 60 {
			if r.IntN(2) == 0 {
				hit(t, r, d)
			} else {
				saveBy(t, d, uint32(r.IntN(3)), text(r.IntN(snap.Room(d.Len())+9), i))
			}
			for formula := range uint32(3) {
				loadBy(t, d, formula)
			}
			if t.Failed() {
				t.Fatalf("seed %d", seed)
			}
		}
	}
}

// newestBy tells by the words of the document which slot a Load tells, -1 for none, and the greatest epoch of all.
func newestBy(list []disk.Sector, formula uint32) (slot int, greatest uint64) {
	first, f, _, is := slotBy(list, 0)
	second, g, _, also := slotBy(list, 1)
	greatest = max(first, second)
	is, also = is && f == formula, also && g == formula
	switch {
	case is && also && second > first, also && !is:
		return 1, greatest
	case is:
		return 0, greatest
	}
	return -1, greatest
}

// loadBy holds what the slots have, and what a Load tells, against the words of the document.
func loadBy(t *testing.T, d *disk.Disk, formula uint32) {
	list := d.Sectors()
	for slot := range 2 {
		if epoch, f, b, ok := slotBy(list, slot); ok {
			whole(t, d, slot, int(epoch), f, string(b))
		} else {
			broken(t, d, slot)
		}
	}
	slot, _ := newestBy(list, formula)
	if slot < 0 {
		loadsNone(t, d, formula)
		return
	}
	epoch, _, b, _ := slotBy(list, slot)
	loads(t, d, formula, string(b), int(epoch))
}

// saveBy holds what a Save does against the words of the document.
func saveBy(t *testing.T, d *disk.Disk, formula uint32, b string) {
	want := d.Sectors()
	half := len(want) / 2
	slot, greatest := newestBy(want, formula)
	place := 0
	if slot == 0 {
		place = 1
	}
	code := api.OK
	switch {
	case half < 1, len(b) > 64*(half-1):
		code = api.ErrSpace
	case greatest == most:
		code = api.ErrOver
	default:
		want[place*half] = head(greatest+1, len(b), formula, sumByBits([]byte(b)))
		copy(want[place*half+1:], lay([]byte(b), 0))
	}
	saves(t, d, formula, b, code)
	if got := d.Sectors(); !slices.Equal(got, want) {
		t.Errorf("Save(%d, %d bytes): %v, want %v", formula, len(b), got, want)
	}
}
