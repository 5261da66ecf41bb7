package snap

const (
	ones    = 0xffffffff
	divisor = 0xedb88320
)

// Sum gives the CRC-32 of bytes.
func Sum(b []byte) uint32 {
	effects := byteEffects()
	sum := uint32(ones)
	for _, c := range b {
		sum = sum>>8 ^ effects[byte(sum)^c]
	}
	return sum ^ ones
}

// byteEffects gives what each byte does to a sum once it was Xored to the lowest bits, and these were halved away.
func byteEffects() [256]uint32 {
	var effects [256]uint32
	for c := range effects {
		sum := uint32(c)
		for range 8 {
			sum = sum>>1 ^ divisor*(sum&1)
		}
		effects[c] = sum
	}
	return effects
}
