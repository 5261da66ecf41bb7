package snap_test

import (
	"hash/crc32"
	"math"
	"math/rand/v2"
	"testing"

	"steelyard/snap"
)

// sumByBits is the document's CRC-32, word by word.
func sumByBits(b []byte) uint32 {
	sum := uint32(math.MaxUint32)
	for _, c := range b {
		sum ^= uint32(c)
		for range 8 {
			odd := sum%2 == 1
			sum /= 2
			if odd {
				sum ^= 0xEDB88320
			}
		}
	}
	return ^sum
}

func TestP61Sum(t *testing.T) {
	for _, c := range []struct {
		b    string
		want uint32
	}{
		{"", 0},
		{"123456789", 0xCBF43926},
		{"\x00", 0xD202EF8D},
		{"\xff", 0xFF000000},
		{"\x00\x00\x00\x00", 0x2144DF1C},
		{"\xff\xff\xff\xff", 0xFFFFFFFF},
		{"The quick brown fox jumps over the lazy dog", 0x414FA339},
	} {
		if got := snap.Sum([]byte(c.b)); got != c.want {
			t.Errorf("Sum(%q): %08X, want %08X", c.b, got, c.want)
		}
	}
}

func TestP61SumOfAnything(t *testing.T) {
	for c := range 256 {
		b := []byte{byte(c)}
		if got := snap.Sum(b); got != sumByBits(b) {
			t.Errorf("Sum(%d): %08X", c, got)
		}
	}
	r := rand.New(rand.NewPCG(6, 1))
	for size := range 300 {
		b := make([]byte, size)
		for i := range b {
			b[i] = byte(r.Uint32())
		}
		if got := snap.Sum(b); got != sumByBits(b) || got != crc32.ChecksumIEEE(b) {
			t.Errorf("Sum of %d bytes: %08X", size, got)
		}
	}
}

func TestP61Room(t *testing.T) {
	for _, c := range []struct{ sectors, want int }{
		{math.MinInt, 0}, {math.MinInt + 1, 0}, {-1 << 58, 0}, {-1 << 59, 0}, {-5, 0}, {-2, 0}, {-1, 0},
		{0, 0}, {1, 0}, {2, 0}, {3, 0}, {4, 64}, {5, 64}, {6, 128}, {7, 128}, {8, 192}, {9, 192}, {100, 49 * 64},
		{65535, 32766 * 64}, {65536, 32767 * 64}, {1 << 40, (1<<39 - 1) * 64}, {1 << 57, (1<<56 - 1) * 64},
	} {
		if got := snap.Room(c.sectors); got != c.want {
			t.Errorf("Room(%d): %d, want %d", c.sectors, got, c.want)
		}
	}
	// Where the number of bytes is none that an int holds, it is the greatest one.
	for _, sectors := range []int{1 << 59, 1 << 60, math.MaxInt - 1, math.MaxInt} {
		if got := snap.Room(sectors); got != math.MaxInt {
			t.Errorf("Room(%d): %d", sectors, got)
		}
	}
}
