package snap_test

import (
	"bytes"
	"encoding/binary"
	"hash/crc32"
	"slices"
	"testing"

	"steelyard/api"
	"steelyard/disk"
	"steelyard/snap"
)

// most is the greatest epoch that there may be.
const most = 1 << 62

// made gives a disk of so many sectors.
func made(t *testing.T, sectors int) *disk.Disk {
	t.Helper()
	d, code := disk.New(sectors)
	if d == nil || code != api.OK {
		t.Fatalf("New(%d): %v, %v", sectors, d, code)
	}
	return d
}

// head gives a header by the words of the document, of what its fields are to be.
func head(epoch uint64, size int, formula, sum uint32) disk.Sector {
	b := []byte{0x53, 0x54, 0x59, 0x31, 1}
	b = binary.BigEndian.AppendUint64(b, epoch)
	b = binary.BigEndian.AppendUint64(b, uint64(size))
	b = binary.BigEndian.AppendUint32(b, formula)
	b = binary.BigEndian.AppendUint32(b, sum)
	b = append(b, make([]byte, 64-8-len(b))...)
	return disk.Sector(binary.BigEndian.AppendUint64(b, epoch))
}

// lay gives the sectors of bytes, the last one filled up.
func lay(b []byte, fill byte) []disk.Sector {
	var list []disk.Sector
	for len(b) > 0 {
		part := b[:min(64, len(b))]
		b = b[len(part):]
		list = append(list, disk.Sector(append(slices.Clone(part), bytes.Repeat([]byte{fill}, 64-len(part))...)))
	}
	return list
}

// set writes sectors from a place on, and a flush.
func set(t *testing.T, d *disk.Disk, at int, list ...disk.Sector) {
	t.Helper()
	for i, s := range list {
		if code := d.Write(at+i, s); code != api.OK {
			t.Fatalf("Write(%d): %v", at+i, code)
		}
	}
	d.Flush()
}

// fix makes a slot whole, with an epoch, a formula, bytes.
func fix(t *testing.T, d *disk.Disk, slot int, epoch uint64, formula uint32, b string) {
	t.Helper()
	at := slot * (d.Len() / 2)
	set(t, d, at, head(epoch, len(b), formula, crc32.ChecksumIEEE([]byte(b))))
	set(t, d, at+1, lay([]byte(b), 0)...)
}

// saves says so, unless a Save answers this.
func saves(t *testing.T, d *disk.Disk, formula uint32, b string, want api.Errno) {
	t.Helper()
	if code := snap.Save(d, formula, []byte(b)); code != want {
		t.Errorf("Save(%d, %q): %v, want %v", formula, short(b), code, want)
	}
}

// loads says so, unless a Load tells this.
func loads(t *testing.T, d *disk.Disk, formula uint32, b string, epoch int) {
	t.Helper()
	if got, n, code := snap.Load(d, formula); string(got) != b || n != epoch || code != api.OK {
		t.Errorf("Load(%d): %q, %d, %v, want %q, %d", formula, short(string(got)), n, code, short(b), epoch)
	}
}

// loadsNone says so, unless a Load tells that there is none.
func loadsNone(t *testing.T, d *disk.Disk, formula uint32) {
	t.Helper()
	if b, epoch, code := snap.Load(d, formula); len(b) != 0 || epoch != 0 || code != api.ErrNone {
		t.Errorf("Load(%d): %q, %d, %v, want none", formula, short(string(b)), epoch, code)
	}
}

// whole says so, unless a slot has this.
func whole(t *testing.T, d *disk.Disk, slot, epoch int, formula uint32, b string) {
	t.Helper()
	if n, f, got, ok := snap.Slot(d, slot); n != epoch || f != formula || string(got) != b || !ok {
		t.Errorf("Slot(%d): %d, %d, %q, %v, want %d, %d, %q", slot, n, f, short(string(got)), ok, epoch, formula, short(b))
	}
}

// broken says so, unless a slot isn't whole.
func broken(t *testing.T, d *disk.Disk, slot int) {
	t.Helper()
	if n, f, b, ok := snap.Slot(d, slot); n != 0 || f != 0 || len(b) != 0 || ok {
		t.Errorf("Slot(%d): %d, %d, %q, %v, want none", slot, n, f, short(string(b)), ok)
	}
}

// text gives so many bytes, which hang on a number, none of which is 0.
func text(size, seed int) string {
	b := make([]byte, size)
	for i := range b {
		b[i] = byte(1 + (i*7+seed*31)%255)
	}
	return string(b)
}

// short gives what a fault shows of bytes: there may be millions of them.
func short(b string) string { return b[:min(len(b), 99)] }
