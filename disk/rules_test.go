package disk_test

import (
	"math"
	"math/rand/v2"
	"slices"
	"testing"

	"steelyard/api"
	"steelyard/disk"
)

// Rule 4: what Sectors answers is new memory each time.
func TestNewMemory(t *testing.T) {
	d := made(t, 2)
	write(t, d, 0, 1)
	d.Flush()
	write(t, d, 1, 2)
	l := d.Sectors()
	other := d.Sectors()
	clear(l[:cap(l)])
	if !slices.Equal(other, []disk.Sector{full(1), full(2)}) {
		t.Errorf("%v", other)
	}
	shows(t, d, full(1), full(2))
	d.Crash([]bool{true}, -1, 0)
	shows(t, d, full(1), full(2))

	// And it stays as it was, whatever happens to the disk.
	write(t, d, 0, 3)
	d.Flush()
	if !slices.Equal(other, []disk.Sector{full(1), full(2)}) {
		t.Errorf("%v", other)
	}
}

// Rule 4: what is kept by a crash is neither changed nor remembered.
func TestKeepIsNotKept(t *testing.T) {
	d := made(t, 2)
	write(t, d, 0, 1)
	write(t, d, 1, 2)
	keep := []bool{true, false, true}
	d.Crash(keep, 0, 4)
	if !slices.Equal(keep, []bool{true, false, true}) {
		t.Errorf("%v", keep)
	}
	clear(keep)
	shows(t, d, parted(4, 1, 0), full(0))
	write(t, d, 0, 5)
	write(t, d, 1, 6)
	d.Crash(nil, -1, 0)
	shows(t, d, parted(4, 1, 0), full(0))
}

// Rule 3: a list without elements and a nil list are one.
func TestEmptyKeep(t *testing.T) {
	for _, keep := range [][]bool{nil, {}} {
		d := made(t, 1)
		write(t, d, 0, 1)
		d.Crash(keep, -1, 0)
		shows(t, d, full(0))
	}
}

// Disks have nothing in common.
func TestDisksApart(t *testing.T) {
	d, other := made(t, 1), made(t, 1)
	write(t, d, 0, 1)
	d.Stop(1)
	shows(t, other, full(0))
	counts(t, other, 0, false)
	other.Crash([]bool{true}, 0, 5)
	counts(t, d, 1, true)
	shows(t, d, full(1))
}

// P1: none panics, whatever it is given, in whatever order they come.
func TestP1NoPanic(t *testing.T) {
	odd := []int{math.MinInt, math.MinInt + 1, -65536, -64, -1, 0, 1, 2, 63, 64, 65535, 65536, math.MaxInt - 1, math.MaxInt}
	for _, n := range odd {
		d, _ := disk.New(n)
		if d == nil {
			continue
		}
		for _, x := range odd {
			d.Read(x)
			d.Write(x, full(1))
			for _, y := range odd {
				d.Write(0, full(2))
				d.Crash([]bool{true}, x, y)
			}
			d.Stop(x)
			d.Flush()
			d.Write(0, full(3))
			d.Crash(nil, 0, x)
		}
	}
}

// P2: the same calls give the same answers; and those are the document's, by a model that reckons all anew.
func TestP2SameCalls(t *testing.T) {
	for seed := range uint64(300) {
		r := rand.New(rand.NewPCG(seed, 5))
		n := 1 + r.IntN(6)
		d, twin := made(t, n), made(t, n)
		m := &model{base: make([]disk.Sector, n)}
		for range 200 {
			happen(t, r, m, d, twin)
			if t.Failed() {
				t.Fatalf("seed %d", seed)
			}
		}
	}
}

// happen lets one thing happen to a model, and to disks, and holds them against one another.
func happen(t *testing.T, r *rand.Rand, m *model, disks ...*disk.Disk) {
	n := len(m.base)
	at, sector := r.IntN(n+2)-1, random(r)
	ops := m.ops + r.IntN(12) - 3
	keep, torn, tear := flags(r, r.IntN(12)), r.IntN(12)-1, r.IntN(400)-200
	kind := r.IntN(12)
	code := api.OK
	switch kind {
	case 0:
		m.crash(keep, torn, tear)
	case 1, 2:
		m.flush()
	case 3:
		m.halt(ops)
	default:
		code = m.write(at, sector)
	}
	for _, d := range disks {
		switch kind {
		case 0:
			d.Crash(keep, torn, tear)
		case 1, 2:
			d.Flush()
		case 3:
			d.Stop(ops)
		default:
			if got := d.Write(at, sector); got != code {
				t.Errorf("Write(%d): %v, want %v", at, got, code)
			}
		}
		shows(t, d, m.seen()...)
		counts(t, d, m.ops, m.dead())
	}
}
