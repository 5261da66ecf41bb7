package snap

import "steelyard/disk"

// What a header begins with, and where its parts stand.
const (
	mark      = "STY1"
	version   = 1
	versionAt = len(mark)
	epochAt   = 5
	sizeAt    = 13
	formulaAt = 21
	sumAt     = 25
	restAt    = 29
	againAt   = 56
)

// maxEpoch is the greatest epoch that there is.
const maxEpoch = 1 << 62

// header is what a header tells: its epoch, how many bytes there are, of which formula, and their CRC-32.
type header struct {
	epoch, size  uint64
	formula, sum uint32
}

// sector gives a header as it stands on a disk.
func (h header) sector() disk.Sector {
	var s disk.Sector
	copy(s[:], mark)
	s[versionAt] = version
	put(s[epochAt:sizeAt], h.epoch)
	put(s[sizeAt:formulaAt], h.size)
	put(s[formulaAt:sumAt], uint64(h.formula))
	put(s[sumAt:restAt], uint64(h.sum))
	put(s[againAt:], h.epoch)
	return s
}

// parse gives what a header tells; false, if the sector isn't one.
func parse(s disk.Sector) (header, bool) {
	h := header{
		epoch:   number(s[epochAt:sizeAt]),
		size:    number(s[sizeAt:formulaAt]),
		formula: uint32(number(s[formulaAt:sumAt])),
		sum:     uint32(number(s[sumAt:restAt])),
	}
	// A torn header has two epochs, so it isn't the one that is made of the first of them.
	if h.epoch < 1 || h.epoch > maxEpoch || s != h.sector() {
		return header{}, false
	}
	return h, true
}

// put fills a place with a number, its byte of the greatest weight first.
func put(to []byte, n uint64) {
	for i := len(to) - 1; i >= 0; i-- {
		to[i] = byte(n)
		n >>= 8
	}
}

// number gives the number that stands at a place.
func number(at []byte) uint64 {
	n := uint64(0)
	for _, b := range at {
		n = n<<8 | uint64(b)
	}
	return n
}
