package disk_test

import (
	"math"
	"slices"
	"testing"

	"steelyard/api"
	"steelyard/disk"
)

func TestP51New(t *testing.T) {
	for _, n := range []int{1, 2, 63, 64, 65, 1000, 65535, 65536} {
		d := made(t, n)
		if d.Len() != n || len(d.Sectors()) != n {
			t.Errorf("Len %d, %d sectors, want %d", d.Len(), len(d.Sectors()), n)
		}
		if slices.ContainsFunc(d.Sectors(), func(s disk.Sector) bool { return s != disk.Sector{} }) {
			t.Errorf("%d sectors: not all 0 at first", n)
		}
		counts(t, d, 0, false)
	}
	for _, n := range []int{0, -1, 65537, 1 << 20, math.MaxInt, math.MinInt, 1 << 32, 1<<32 + 1, -65536} {
		if d, code := disk.New(n); d != nil || code != api.ErrRange {
			t.Errorf("New(%d): %v, %v", n, d, code)
		}
	}
}

func TestP51ReadAndWrite(t *testing.T) {
	d := made(t, 3)
	write(t, d, 0, 1)
	write(t, d, 2, 2, 3)
	shows(t, d, full(1), full(0), full(3))
	odd := parted(5, 9, 0)
	odd[63] = 7
	if d.Write(1, odd) != api.OK {
		t.Error("Write")
	}
	shows(t, d, full(1), odd, full(3))
	counts(t, d, 4, false)
}

// The last sector of all is one like the others.
func TestP51LastSector(t *testing.T) {
	d := made(t, 65536)
	write(t, d, 65535, 7)
	if s, code := d.Read(65535); s != full(7) || code != api.OK {
		t.Errorf("%v, %v", s, code)
	}
	if s, _ := d.Read(65534); s != (disk.Sector{}) {
		t.Errorf("%v", s)
	}
}

func TestP51NoSuchSector(t *testing.T) {
	d := made(t, 2)
	write(t, d, 0, 5)
	write(t, d, 1, 6)
	for _, at := range []int{-1, 2, 3, 65536, math.MaxInt, math.MinInt, 1 << 32} {
		if s, code := d.Read(at); s != (disk.Sector{}) || code != api.ErrRange {
			t.Errorf("Read(%d): %v, %v", at, s, code)
		}
		if code := d.Write(at, full(9)); code != api.ErrRange {
			t.Errorf("Write(%d): %v", at, code)
		}
	}
	shows(t, d, full(5), full(6))
	counts(t, d, 2, false)
	d.Crash([]bool{true, true}, -1, 0)
	shows(t, d, full(5), full(6))
}

// A write where there is no sector isn't one of the writes that a crash goes through.
func TestP51WrongWriteIsNone(t *testing.T) {
	d := made(t, 2)
	write(t, d, 0, 1)
	d.Write(2, full(8))
	d.Write(-1, full(8))
	write(t, d, 1, 2)
	d.Crash([]bool{false, true}, -1, 0)
	shows(t, d, full(0), full(2))
}

func TestP51Ops(t *testing.T) {
	d := made(t, 2)
	d.Flush()
	counts(t, d, 1, false)
	write(t, d, 0, 1, 1)
	counts(t, d, 3, false)
	d.Read(0)
	d.Sectors()
	d.Len()
	d.Read(9)
	d.Write(9, full(1))
	counts(t, d, 3, false)
	d.Flush()
	d.Flush()
	counts(t, d, 5, false)
	d.Crash(nil, -1, 0)
	counts(t, d, 5, false)
	write(t, d, 1, 4)
	counts(t, d, 6, false)
	d.Stop(100)
	counts(t, d, 6, false)
}

// Without a Stop the power has no end.
func TestP51NoStop(t *testing.T) {
	d := made(t, 1)
	for range 100000 {
		d.Flush()
	}
	counts(t, d, 100000, false)
}
