package snap_test

import (
	"math/rand/v2"
	"testing"

	"steelyard/api"
	"steelyard/disk"
	"steelyard/snap"
)

// told is what a Load tells.
type told struct {
	b     string
	epoch int
	code  api.Errno
}

// tell gives what a Load tells.
func tell(d *disk.Disk, formula uint32) told {
	b, epoch, code := snap.Load(d, formula)
	return told{string(b), epoch, code}
}

// history is what is saved on a disk, and what at last, while it crashes.
type history struct {
	name    string
	prepare func(t *testing.T, d *disk.Disk)
	formula uint32
	b       string
}

// saveAll gives what saves texts, one behind the other.
func saveAll(formula uint32, list ...string) func(t *testing.T, d *disk.Disk) {
	return func(t *testing.T, d *disk.Disk) {
		for _, b := range list {
			saves(t, d, formula, b, api.OK)
		}
	}
}

// histories gives them, for disks of 8 sectors.
func histories() []history {
	return []history{
		{"nothing ahead", saveAll(1), 1, text(130, 1)},
		{"one ahead", saveAll(1, "one"), 1, text(70, 2)},
		{"two ahead", saveAll(1, "one", text(190, 3)), 1, text(130, 4)},
		{"three ahead", saveAll(1, text(192, 5), "two", text(100, 6)), 1, text(64, 7)},
		{"the same bytes", saveAll(1, "same", "same"), 1, "same"},
		{"no bytes", saveAll(1, "", "b"), 1, ""},
		{"behind no bytes", saveAll(1, "a", "", "c"), 1, text(120, 8)},
		{"another formula", saveAll(2, "one", "two"), 1, text(130, 9)},
		{"another formula with the same bytes", saveAll(2, "same", "same"), 1, "same"},
		{"another formula between", func(t *testing.T, d *disk.Disk) {
			saveAll(1, "one", "two")(t, d)
			saveAll(0x01000001, "three")(t, d)
		}, 1, text(66, 10)},
		{"epochs of two bytes", func(t *testing.T, d *disk.Disk) {
			fix(t, d, 0, 255, 1, "low")
			fix(t, d, 1, 256, 1, "high")
		}, 1, text(67, 11)},
		{"the last byte of an epoch turns to 0", func(t *testing.T, d *disk.Disk) {
			fix(t, d, 0, 0x0101, 1, "low")
			fix(t, d, 1, 0x01ff, 1, "high")
		}, 1, "turns"},
		{"the greatest epochs", func(t *testing.T, d *disk.Disk) {
			fix(t, d, 0, most-2, 1, "low")
			fix(t, d, 1, most-1, 1, "high")
		}, 1, "greatest"},
		{"a crash ahead", func(t *testing.T, d *disk.Disk) {
			saveAll(1, text(128, 12), text(128, 13))(t, d)
			d.Stop(d.Ops() + 4)
			saves(t, d, 1, text(128, 14), api.OK)
			d.Crash([]bool{true}, 0, 20)
		}, 1, text(128, 15)},
	}
}

// crashed gives a disk on which a history went on up to a number of writes and flushes, and then a crash.
func crashed(t *testing.T, h history, ops int, keep []bool, torn, tear int) *disk.Disk {
	t.Helper()
	d := made(t, 8)
	h.prepare(t, d)
	d.Stop(d.Ops() + ops)
	saves(t, d, h.formula, h.b, api.OK)
	d.Crash(keep, torn, tear)
	return d
}

// masks gives all lists of so many truths.
func masks(n int) [][]bool {
	list := [][]bool{nil}
	for range n {
		var longer [][]bool
		for _, l := range list {
			longer = append(longer, append(append([]bool{}, l...), false), append(append([]bool{}, l...), true))
		}
		list = longer
	}
	return list
}

// tears gives how much of a write may last; all of it, where it is a header that is torn.
func tears(header bool) []int {
	if !header {
		return []int{0, 1, 20, 63}
	}
	var list []int
	for n := range 64 {
		list = append(list, n)
	}
	return list
}

// Every crash at every point leaves what was told ahead, or what was saved; the latter, once all was done.
func TestP64EveryCrash(t *testing.T) {
	for _, h := range histories() {
		d := made(t, 8)
		h.prepare(t, d)
		ahead := tell(d, h.formula)
		saves(t, d, h.formula, h.b, api.OK)
		behind := tell(d, h.formula)
		if behind.b != h.b || behind.code != api.OK || behind.epoch <= ahead.epoch {
			t.Fatalf("%s: %v is told", h.name, behind)
		}
		parts := len(lay([]byte(h.b), 0))
		for ops := range parts + 4 {
			header := ops == parts+2
			for _, keep := range masks(min(ops, 4)) {
				for torn := -1; torn < min(ops, 4); torn++ {
					for _, tear := range tears(header && torn == 0) {
						d := crashed(t, h, ops, keep, torn, tear)
						got := tell(d, h.formula)
						if got != behind && (got != ahead || ops == parts+3) {
							t.Fatalf("%s: %d done, kept %v, torn %d, %d: %v, ahead %v", h.name, ops, keep, torn, tear, got, ahead)
						}
						if ops <= parts+1 && got != ahead {
							t.Fatalf("%s: %d done: %v is told without a header", h.name, ops, got)
						}
					}
				}
			}
		}
	}
}

// A header that is kept is told, and one that is lost isn't.
func TestP64Header(t *testing.T) {
	for _, h := range histories() {
		d := made(t, 8)
		h.prepare(t, d)
		ahead := tell(d, h.formula)
		parts := len(lay([]byte(h.b), 0))
		if got := tell(crashed(t, h, parts+2, nil, -1, 0), h.formula); got != ahead {
			t.Errorf("%s: %v is told, though the header is lost", h.name, got)
		}
		if got := tell(crashed(t, h, parts+2, []bool{true}, -1, 0), h.formula); got.b != h.b || got.epoch <= ahead.epoch {
			t.Errorf("%s: %v is told, though the header is kept", h.name, got)
		}
		if got := tell(crashed(t, h, parts+3, nil, 0, 0), h.formula); got.b != h.b || got.epoch <= ahead.epoch {
			t.Errorf("%s: %v is told, though all was flushed", h.name, got)
		}
	}
}

// Save upon Save, crash upon crash: what is told is never older than what was saved with power.
func TestP64CrashUponCrash(t *testing.T) {
	for seed := range uint64(200) {
		r := rand.New(rand.NewPCG(seed, 6))
		d := made(t, 8)
		ahead := tell(d, 1)
		for i := range 60 {
			b := text(r.IntN(193), i)
			stop := r.IntN(10)
			if stop < 7 {
				d.Stop(d.Ops() + stop)
			}
			saves(t, d, 1, b, api.OK)
			dead := d.Dead()
			if stop < 7 {
				d.Crash([]bool{r.IntN(2) == 1, r.IntN(2) == 1, r.IntN(2) == 1}, r.IntN(4)-1, r.IntN(64))
			}
			got := tell(d, 1)
			if got.b != b && (!dead || got != ahead) {
				t.Fatalf("seed %d, save %d: %v, ahead %v", seed, i, got, ahead)
			}
			if got != ahead && got.epoch != ahead.epoch+1 {
				t.Fatalf("seed %d, save %d: epoch %d behind %d", seed, i, got.epoch, ahead.epoch)
			}
			ahead = got
		}
	}
}
