package snap

import (
	"slices"

	"steelyard/disk"
)

// Slot tells what a slot has: its number, its formula, its bytes.
func Slot(d *disk.Disk, slot int) (epoch int, formula uint32, b []byte, ok bool) {
	if slot < 0 || slot >= slots || slotSectors(d.Len()) < 1 {
		return 0, 0, nil, false
	}
	first, _ := d.Read(headerAt(d, slot))
	h, right := parse(first)
	if !right || h.size > uint64(Room(d.Len())) {
		return 0, 0, nil, false
	}
	b = read(d, slot, int(h.size))
	if Sum(b) != h.sum {
		return 0, 0, nil, false
	}
	return int(h.epoch), h.formula, b, true
}

// slotSectors tells how many sectors each slot has on a disk of so many.
func slotSectors(sectors int) int { return sectors / slots }

// headerAt tells where a slot's header stands; its bytes stand behind it.
func headerAt(d *disk.Disk, slot int) int { return slot * slotSectors(d.Len()) }

// read gives so many bytes of a slot.
func read(d *disk.Disk, slot, size int) []byte {
	b := make([]byte, size)
	at := headerAt(d, slot)
	for part := range slices.Chunk(b, sectorBytes) {
		at++
		s, _ := d.Read(at)
		copy(part, s[:])
	}
	return b
}

// write writes the bytes of a slot, the last sector filled up with noughts.
func write(d *disk.Disk, slot int, b []byte) {
	at := headerAt(d, slot)
	for part := range slices.Chunk(b, sectorBytes) {
		at++
		var s disk.Sector
		copy(s[:], part)
		d.Write(at, s)
	}
}
