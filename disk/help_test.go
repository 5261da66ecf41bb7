package disk_test

import (
	"math/rand/v2"
	"slices"
	"testing"

	"steelyard/api"
	"steelyard/disk"
)

// made gives a disk of so many sectors.
func made(t *testing.T, sectors int) *disk.Disk {
	t.Helper()
	d, code := disk.New(sectors)
	if d == nil || code != api.OK {
		t.Fatalf("New(%d): %v, %v", sectors, d, code)
	}
	return d
}

// full gives a sector that has one byte everywhere.
func full(b byte) disk.Sector {
	var s disk.Sector
	for i := range s {
		s[i] = b
	}
	return s
}

// parted gives a sector that has one byte in its first n places, another one in the others.
func parted(n int, first, rest byte) disk.Sector {
	s := full(rest)
	for i := range n {
		s[i] = first
	}
	return s
}

// write writes sectors that have one byte everywhere; each must be answered OK.
func write(t *testing.T, d *disk.Disk, at int, bytes ...byte) {
	t.Helper()
	for _, b := range bytes {
		if code := d.Write(at, full(b)); code != api.OK {
			t.Fatalf("Write(%d): %v", at, code)
		}
	}
}

// shows says so, unless these are all sectors, both one by one and as a whole.
func shows(t *testing.T, d *disk.Disk, want ...disk.Sector) {
	t.Helper()
	if got := d.Sectors(); !slices.Equal(got, want) {
		t.Errorf("Sectors: %v, want %v", got, want)
	}
	for i, s := range want {
		if got, code := d.Read(i); got != s || code != api.OK {
			t.Errorf("Read(%d): %v, %v, want %v", i, got, code, s)
		}
	}
}

// counts says so, unless so many were done, and the power is as told.
func counts(t *testing.T, d *disk.Disk, ops int, dead bool) {
	t.Helper()
	if d.Ops() != ops || d.Dead() != dead {
		t.Errorf("Ops %d, Dead %v, want %d, %v", d.Ops(), d.Dead(), ops, dead)
	}
}

// done is a write that a model did.
type done struct {
	at     int
	sector disk.Sector
}

// model is a disk by the words of the document: what lasts, and the writes since.
type model struct {
	base    []disk.Sector
	since   []done
	ops     int
	stopped bool
	stop    int
}

func (m *model) dead() bool { return m.stopped && m.ops >= m.stop }

// seen reckons what is seen anew each time.
func (m *model) seen() []disk.Sector {
	list := slices.Clone(m.base)
	for _, w := range m.since {
		list[w.at] = w.sector
	}
	return list
}

func (m *model) write(at int, s disk.Sector) api.Errno {
	if at < 0 || at > len(m.base)-1 {
		return api.ErrRange
	}
	if !m.dead() {
		m.since = append(m.since, done{at, s})
		m.ops++
	}
	return api.OK
}

func (m *model) flush() {
	if !m.dead() {
		m.base, m.since = m.seen(), nil
		m.ops++
	}
}

func (m *model) halt(ops int) {
	m.stopped, m.stop = true, ops
}

func (m *model) crash(keep []bool, torn, tear int) {
	for tear < 0 {
		tear += 64
	}
	for i, w := range m.since {
		if i == torn {
			for j := range tear % 64 {
				m.base[w.at][j] = w.sector[j]
			}
		} else if i < len(keep) && keep[i] {
			m.base[w.at] = w.sector
		}
	}
	m.since, m.stopped = nil, false
}

// random gives a sector of any bytes.
func random(r *rand.Rand) disk.Sector {
	var s disk.Sector
	for i := range s {
		s[i] = byte(r.Uint32())
	}
	return s
}

// flags gives so many truths, any of them.
func flags(r *rand.Rand, n int) []bool {
	list := make([]bool, n)
	for i := range list {
		list[i] = r.IntN(2) == 1
	}
	return list
}
