package snap_test

import (
	"slices"
	"testing"

	"steelyard/api"
	"steelyard/disk"
	"steelyard/snap"
)

func TestP62Load(t *testing.T) {
	type slot struct {
		epoch   uint64
		formula uint32
		b       string
	}
	for _, c := range []struct {
		first, second slot
		b             string
		epoch         int
	}{
		{slot{1, 5, "a"}, slot{2, 5, "b"}, "b", 2},
		{slot{2, 5, "a"}, slot{1, 5, "b"}, "a", 2},
		{slot{most, 5, "a"}, slot{most - 1, 5, "b"}, "a", most},
		{slot{255, 5, "a"}, slot{256, 5, "b"}, "b", 256},
		// of one epoch
		{slot{3, 5, "a"}, slot{3, 5, "b"}, "a", 3},
		// another formula's are none
		{slot{9, 6, "a"}, slot{2, 5, "b"}, "b", 2},
		{slot{2, 5, "a"}, slot{9, 6, "b"}, "a", 2},
		{slot{3, 6, "a"}, slot{3, 5, "b"}, "b", 3},
		// neither are those that aren't whole
		{slot{0, 5, "a"}, slot{2, 5, "b"}, "b", 2},
		{slot{2, 5, "a"}, slot{most + 1, 5, "b"}, "a", 2},
		// no bytes
		{slot{1, 5, "a"}, slot{2, 5, ""}, "", 2},
	} {
		d := made(t, 6)
		fix(t, d, 0, c.first.epoch, c.first.formula, c.first.b)
		fix(t, d, 1, c.second.epoch, c.second.formula, c.second.b)
		loads(t, d, 5, c.b, c.epoch)
		loadsNone(t, d, 4)
	}
}

func TestP62None(t *testing.T) {
	for _, sectors := range []int{1, 2, 3, 8} {
		d := made(t, sectors)
		for _, formula := range []uint32{0, 1, 0xffffffff} {
			loadsNone(t, d, formula)
		}
	}
	d := made(t, 8)
	fix(t, d, 0, 1, 7, "seven")
	loads(t, d, 7, "seven", 1)
	for _, formula := range []uint32{0, 6, 7 << 8, 7 << 24, 0xffffffff} {
		loadsNone(t, d, formula)
	}
}

func TestP62Formulas(t *testing.T) {
	for _, formula := range []uint32{0, 1, 0x80000000, 0xffffffff, 0x01020304} {
		d := made(t, 8)
		saves(t, d, formula, "own", api.OK)
		loads(t, d, formula, "own", 1)
		loadsNone(t, d, formula^1)
		loadsNone(t, d, formula^1<<31)
	}
}

// A Load changes nothing.
func TestP62NothingChanges(t *testing.T) {
	d := made(t, 8)
	saves(t, d, 1, "one", api.OK)
	ahead, ops := d.Sectors(), d.Ops()
	loads(t, d, 1, "one", 1)
	whole(t, d, 0, 1, 1, "one")
	if d.Ops() != ops || !slices.Equal(d.Sectors(), ahead) {
		t.Error("something changed")
	}
}

// A Save writes all sectors of the place's bytes, and the header, and no other one.
func TestP63Sectors(t *testing.T) {
	for _, sectors := range []int{8, 9} {
		for _, size := range []int{0, 1, 63, 64, 65, 128, 191, 192} {
			d := made(t, sectors)
			var want []disk.Sector
			for i := range sectors {
				s := disk.Sector{byte(i), 0xEE, 63: 0xEE}
				want = append(want, s)
				set(t, d, i, s)
			}
			for epoch, slot := range []int{0, 1, 0, 1} {
				b := text(size, epoch)
				ops := d.Ops()
				saves(t, d, 0x01020304, b, api.OK)
				list := lay([]byte(b), 0)
				copy(want[slot*4+1:], list)
				want[slot*4] = head(uint64(epoch)+1, size, 0x01020304, sumByBits([]byte(b)))
				if got := d.Sectors(); !slices.Equal(got, want) {
					t.Errorf("%d bytes, epoch %d: %v, want %v", size, epoch+1, got, want)
				}
				if d.Ops() != ops+len(list)+3 {
					t.Errorf("%d bytes: %d writes and flushes", size, d.Ops()-ops)
				}
			}
		}
	}
}

// The bytes come sector by sector, then a flush, then the header, then a flush.
func TestP63Order(t *testing.T) {
	b := text(150, 1)
	list := lay([]byte(b), 0)
	header := head(1, len(b), 9, sumByBits([]byte(b)))
	for done := range 7 {
		for _, flushed := range []bool{false, true} {
			d := made(t, 8)
			d.Stop(done)
			saves(t, d, 9, b, api.OK)
			if flushed {
				d.Crash(nil, -1, 0)
			}
			want := make([]disk.Sector, 8)
			if n := min(done, 3); !flushed || done >= 4 {
				copy(want[1:], list[:n])
			}
			if done >= 6 || !flushed && done >= 5 {
				want[0] = header
			}
			if got := d.Sectors(); !slices.Equal(got, want) {
				t.Errorf("%d done, flushed %v: %v, want %v", done, flushed, got, want)
			}
		}
	}
}

func TestP63Place(t *testing.T) {
	for _, c := range []struct {
		epochs   [2]uint64
		formulas [2]uint32
		formula  uint32
		place    int
		epoch    int
	}{
		// none, and one
		{[2]uint64{0, 0}, [2]uint32{1, 1}, 1, 0, 1},
		{[2]uint64{4, 0}, [2]uint32{1, 1}, 1, 1, 5},
		{[2]uint64{0, 4}, [2]uint32{1, 1}, 1, 0, 5},
		// both
		{[2]uint64{4, 7}, [2]uint32{1, 1}, 1, 0, 8},
		{[2]uint64{7, 4}, [2]uint32{1, 1}, 1, 1, 8},
		{[2]uint64{7, 7}, [2]uint32{1, 1}, 1, 1, 8},
		// another formula's epochs count, its places don't
		{[2]uint64{4, 0}, [2]uint32{2, 1}, 1, 0, 5},
		{[2]uint64{0, 4}, [2]uint32{1, 2}, 1, 0, 5},
		{[2]uint64{9, 3}, [2]uint32{2, 1}, 1, 0, 10},
		{[2]uint64{3, 9}, [2]uint32{2, 1}, 1, 0, 10},
		{[2]uint64{3, 9}, [2]uint32{1, 2}, 1, 1, 10},
		{[2]uint64{9, 3}, [2]uint32{1, 2}, 1, 1, 10},
		{[2]uint64{9, 3}, [2]uint32{2, 3}, 1, 0, 10},
		{[2]uint64{3, 9}, [2]uint32{2, 2}, 1, 0, 10},
		// those that aren't whole count neither way
		{[2]uint64{4, most + 9}, [2]uint32{1, 1}, 1, 1, 5},
		{[2]uint64{most + 9, 4}, [2]uint32{1, 1}, 1, 0, 5},
		{[2]uint64{most + 9, most + 9}, [2]uint32{1, 1}, 1, 0, 1},
		// the formula 0 is one
		{[2]uint64{0, 0}, [2]uint32{0, 0}, 0, 0, 1},
		{[2]uint64{0, 4}, [2]uint32{0, 0}, 0, 0, 5},
		{[2]uint64{4, 0}, [2]uint32{0, 0}, 0, 1, 5},
		// the greatest epoch
		{[2]uint64{most - 1, 3}, [2]uint32{1, 1}, 1, 1, most},
		{[2]uint64{most - 1, 3}, [2]uint32{2, 1}, 1, 0, most},
	} {
		d := made(t, 6)
		fix(t, d, 0, c.epochs[0], c.formulas[0], "zero")
		fix(t, d, 1, c.epochs[1], c.formulas[1], "one")
		saves(t, d, c.formula, "saved", api.OK)
		whole(t, d, c.place, c.epoch, c.formula, "saved")
		loads(t, d, c.formula, "saved", c.epoch)
		if other := 1 - c.place; c.epochs[other] >= 1 && c.epochs[other] <= most {
			whole(t, d, other, int(c.epochs[other]), c.formulas[other], []string{"zero", "one"}[other])
		}
	}
}

// A slot whose bytes aren't those of its header has no epoch.
func TestP63NotWhole(t *testing.T) {
	d := made(t, 6)
	fix(t, d, 0, 3, 1, "three")
	fix(t, d, 1, most, 1, "most")
	set(t, d, 4, disk.Sector{'M'})
	saves(t, d, 1, "four", api.OK)
	whole(t, d, 1, 4, 1, "four")
	whole(t, d, 0, 3, 1, "three")
}

func TestP63Space(t *testing.T) {
	for _, c := range []struct{ sectors, size int }{
		{1, 0}, {1, 1}, {2, 1}, {3, 1}, {3, 64}, {4, 65}, {5, 65}, {8, 193}, {9, 193}, {9, 256}, {65536, 64*32767 + 1},
	} {
		d := made(t, c.sectors)
		ahead := d.Sectors()
		saves(t, d, 1, text(c.size, 1), api.ErrSpace)
		if d.Ops() != 0 || !slices.Equal(d.Sectors(), ahead) {
			t.Errorf("%d bytes on %d sectors: something changed", c.size, c.sectors)
		}
		loadsNone(t, d, 1)
	}
	for _, c := range []struct{ sectors, size int }{{2, 0}, {3, 0}, {4, 64}, {5, 64}, {8, 192}, {65536, 64 * 32767}} {
		d := made(t, c.sectors)
		for epoch := range 3 {
			saves(t, d, 1, text(c.size, epoch), api.OK)
			loads(t, d, 1, text(c.size, epoch), epoch+1)
		}
	}
}

func TestP63Over(t *testing.T) {
	for _, c := range []struct {
		slot    int
		formula uint32
	}{{0, 1}, {1, 1}, {0, 2}, {1, 2}} {
		d := made(t, 6)
		fix(t, d, c.slot, most, c.formula, "most")
		fix(t, d, 1-c.slot, 3, 1, "three")
		ahead, ops := d.Sectors(), d.Ops()
		saves(t, d, 1, "more", api.ErrOver)
		saves(t, d, 3, "", api.ErrOver)
		// What has no room is told first.
		saves(t, d, 1, text(129, 1), api.ErrSpace)
		if d.Ops() != ops || !slices.Equal(d.Sectors(), ahead) {
			t.Error("something changed")
		}
		whole(t, d, c.slot, most, c.formula, "most")
	}

	d := made(t, 6)
	fix(t, d, 0, most-1, 1, "least")
	saves(t, d, 1, "last", api.OK)
	loads(t, d, 1, "last", most)
	saves(t, d, 1, "none", api.ErrOver)
	loads(t, d, 1, "last", most)
}

// Without power a Save is answered as ever, and nothing is done.
func TestP63Dead(t *testing.T) {
	d := made(t, 6)
	saves(t, d, 1, "one", api.OK)
	ahead, ops := d.Sectors(), d.Ops()
	d.Stop(ops)
	saves(t, d, 1, "two", api.OK)
	saves(t, d, 1, text(129, 1), api.ErrSpace)
	if d.Ops() != ops || !slices.Equal(d.Sectors(), ahead) {
		t.Error("something changed")
	}
	loads(t, d, 1, "one", 1)
}

func TestManySaves(t *testing.T) {
	d := made(t, 9)
	for i := range 300 {
		b := text(i%193, i)
		saves(t, d, 77, b, api.OK)
		loads(t, d, 77, b, i+1)
		whole(t, d, i%2, i+1, 77, b)
		if i > 0 {
			whole(t, d, 1-i%2, i, 77, text((i-1)%193, i-1))
		}
	}
	if b, _, _ := snap.Load(d, 78); len(b) != 0 {
		t.Errorf("%q", b)
	}
}
