package disk_test

import (
	"math"
	"testing"

	"steelyard/api"
	"steelyard/disk"
)

func TestExample(t *testing.T) {
	d := made(t, 2)
	write(t, d, 1, 5)
	d.Flush()
	write(t, d, 1, 6)
	d.Crash(nil, -1, 0)
	shows(t, d, full(0), full(5))
}

func TestP52Flushed(t *testing.T) {
	d := made(t, 2)
	write(t, d, 0, 1)
	write(t, d, 1, 2, 3)
	d.Flush()
	d.Crash(nil, 0, 0)
	shows(t, d, full(1), full(3))
	write(t, d, 0, 7)
	shows(t, d, full(7), full(3))
	d.Crash([]bool{false}, 1, 9)
	shows(t, d, full(1), full(3))
}

func TestP52Keep(t *testing.T) {
	for _, c := range []struct {
		keep       []bool
		zero, one  byte
		two, three byte
	}{
		{nil, 0, 0, 0, 0},
		{[]bool{true}, 1, 0, 0, 0},
		{[]bool{false, true}, 0, 2, 0, 0},
		{[]bool{true, true, true, true}, 1, 2, 3, 4},
		{[]bool{true, false, false, true, true, true}, 1, 0, 0, 4},
		{[]bool{false, false, false, false, true}, 0, 0, 0, 0},
	} {
		d := made(t, 4)
		for i := range 4 {
			write(t, d, i, byte(i+1))
		}
		d.Crash(c.keep, -1, 0)
		shows(t, d, full(c.zero), full(c.one), full(c.two), full(c.three))
	}
}

// Writes of one sector go in the order in which they came, whichever of them last.
func TestP52Order(t *testing.T) {
	for _, c := range []struct {
		keep []bool
		want byte
	}{
		{nil, 9},
		{[]bool{true}, 1},
		{[]bool{true, true}, 2},
		{[]bool{true, true, true}, 3},
		{[]bool{true, false, true}, 3},
		{[]bool{true, true, false}, 2},
		{[]bool{false, true, false}, 2},
		{[]bool{true, false, false}, 1},
	} {
		d := made(t, 1)
		write(t, d, 0, 9)
		d.Flush()
		write(t, d, 0, 1, 2, 3)
		d.Crash(c.keep, -1, 0)
		shows(t, d, full(c.want))
	}
}

// Flushes count ahead of the last one not: the writes behind it are numbered from 0 on.
func TestP52SinceTheLastFlush(t *testing.T) {
	d := made(t, 3)
	write(t, d, 0, 1)
	d.Flush()
	write(t, d, 1, 2)
	d.Flush()
	write(t, d, 2, 3)
	write(t, d, 0, 4)
	d.Crash([]bool{false, true}, -1, 0)
	shows(t, d, full(4), full(2), full(0))
}

func TestP52Torn(t *testing.T) {
	for _, c := range []struct{ tear, lasting int }{
		{0, 0}, {1, 1}, {31, 31}, {32, 32}, {63, 63}, {64, 0}, {65, 1}, {67, 3}, {127, 63}, {128, 0}, {6400 + 5, 5},
		{math.MaxInt, 63}, {math.MinInt, 0}, {math.MinInt + 1, 1}, {-1, 63}, {-63, 1}, {-64, 0}, {-65, 63}, {-128, 0},
	} {
		for _, keep := range [][]bool{nil, {false}, {true}, {true, true}} {
			d := made(t, 1)
			write(t, d, 0, 9)
			d.Flush()
			write(t, d, 0, 1)
			d.Crash(keep, 0, c.tear)
			shows(t, d, parted(c.lasting, 1, 9))
		}
	}
}

func TestP52NoneTorn(t *testing.T) {
	for _, torn := range []int{-1, 2, 3, math.MinInt, math.MaxInt} {
		d := made(t, 2)
		write(t, d, 0, 1)
		write(t, d, 1, 2)
		d.Crash([]bool{true, false}, torn, 17)
		shows(t, d, full(1), full(0))
	}
}

// The bytes that a torn write doesn't bring are as they last by then: as earlier writes left them that last.
func TestP52TornOverOthers(t *testing.T) {
	for _, c := range []struct {
		keep []bool
		torn int
		want disk.Sector
	}{
		{nil, 1, parted(10, 2, 9)},
		{[]bool{true}, 1, parted(10, 2, 1)},
		{[]bool{true, true, true}, 1, full(3)},
		{[]bool{false, true, true}, 2, parted(10, 3, 2)},
		{[]bool{true, false, true}, 2, parted(10, 3, 1)},
		{[]bool{true, true}, 0, full(2)},
		{[]bool{true, false}, 0, parted(10, 1, 9)},
	} {
		d := made(t, 1)
		write(t, d, 0, 9)
		d.Flush()
		write(t, d, 0, 1, 2, 3)
		d.Crash(c.keep, c.torn, 10)
		shows(t, d, c.want)
	}
}

// What a crash leaves lasts: the writes ahead of it aren't writes any more.
func TestP52AllLasts(t *testing.T) {
	d := made(t, 2)
	write(t, d, 0, 1)
	write(t, d, 1, 2)
	d.Crash([]bool{true}, 1, 8)
	shows(t, d, full(1), parted(8, 2, 0))
	d.Crash(nil, 0, 0)
	shows(t, d, full(1), parted(8, 2, 0))
	write(t, d, 0, 5)
	d.Crash([]bool{true, true}, 1, 3)
	shows(t, d, full(5), parted(8, 2, 0))
}

func TestP52PowerWithoutEnd(t *testing.T) {
	d := made(t, 1)
	d.Stop(0)
	counts(t, d, 0, true)
	d.Crash(nil, -1, 0)
	counts(t, d, 0, false)
	write(t, d, 0, 1, 2, 3)
	counts(t, d, 3, false)

	// A Stop that is yet to come is gone, too.
	d.Stop(5)
	d.Crash(nil, -1, 0)
	for range 100 {
		d.Flush()
	}
	counts(t, d, 103, false)
}

func TestP53Stop(t *testing.T) {
	d := made(t, 2)
	d.Stop(3)
	write(t, d, 0, 1)
	d.Flush()
	counts(t, d, 2, false)
	write(t, d, 1, 2)
	counts(t, d, 3, true)

	write(t, d, 0, 8)
	write(t, d, 1, 8)
	d.Flush()
	counts(t, d, 3, true)
	shows(t, d, full(1), full(2))
	for _, at := range []int{-1, 2} {
		if code := d.Write(at, full(8)); code != api.ErrRange {
			t.Errorf("Write(%d): %v", at, code)
		}
		if _, code := d.Read(at); code != api.ErrRange {
			t.Errorf("Read(%d): %v", at, code)
		}
	}

	// The flush ahead was done, the one behind wasn't; nor was a write of 8.
	d.Crash([]bool{false, true, true}, 3, 8)
	shows(t, d, full(1), full(0))
	counts(t, d, 3, false)
}

// A write that wasn't done isn't one of those that a crash goes through.
func TestP53WritesNotDone(t *testing.T) {
	d := made(t, 2)
	write(t, d, 0, 1)
	d.Stop(1)
	write(t, d, 1, 8)
	d.Crash([]bool{true, true}, 1, 8)
	shows(t, d, full(1), full(0))
}

func TestP53FlushCounts(t *testing.T) {
	d := made(t, 1)
	d.Stop(2)
	write(t, d, 0, 4)
	d.Flush()
	counts(t, d, 2, true)
	d.Crash(nil, 0, 0)
	shows(t, d, full(4))
}

func TestP53AtOnce(t *testing.T) {
	for _, ops := range []int{4, 3, 1, 0, -1, -100, math.MinInt} {
		d := made(t, 1)
		write(t, d, 0, 1, 2, 3)
		d.Flush()
		d.Stop(ops)
		counts(t, d, 4, true)
		write(t, d, 0, 9)
		d.Flush()
		counts(t, d, 4, true)
		shows(t, d, full(3))
	}
	d := made(t, 1)
	d.Stop(-1)
	counts(t, d, 0, true)
}

func TestP53LaterStop(t *testing.T) {
	d := made(t, 1)
	d.Stop(2)
	d.Stop(4)
	write(t, d, 0, 1, 2, 3)
	counts(t, d, 3, false)
	d.Stop(math.MaxInt)
	write(t, d, 0, 4, 5)
	counts(t, d, 5, false)
	d.Stop(6)
	write(t, d, 0, 6, 7)
	counts(t, d, 6, true)
	shows(t, d, full(6))

	// It counts in the earlier one's place, though the power be gone by that.
	d.Stop(7)
	counts(t, d, 6, false)
	write(t, d, 0, 7, 8)
	counts(t, d, 7, true)
	shows(t, d, full(7))
	d.Stop(-5)
	counts(t, d, 7, true)
}

// Ops goes on over crashes, and a Stop counts from the beginning on.
func TestP53StopBehindACrash(t *testing.T) {
	d := made(t, 1)
	write(t, d, 0, 1, 2)
	d.Crash(nil, -1, 0)
	d.Stop(3)
	counts(t, d, 2, false)
	write(t, d, 0, 3)
	counts(t, d, 3, true)
	d.Crash([]bool{true}, -1, 0)
	shows(t, d, full(3))
}
