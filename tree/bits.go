package tree

import "math/bits"

const labelBits = 256

// bit is the bit i of b, from 0 to 255: bit 0 is the highest one of the first byte.
func bit(b [32]byte, i int) byte {
	return b[i/8] >> (7 - i%8) & 1
}

// common is how many first bits a and b have in common.
func common(a, b [32]byte) int {
	for i := range a {
		if d := a[i] ^ b[i]; d != 0 {
			return 8*i + bits.LeadingZeros8(d)
		}
	}
	return labelBits
}

// firstBits is b with all bits from n on, 0 to 256, made 0.
func firstBits(b [32]byte, n int) [32]byte {
	var out [32]byte
	copy(out[:n/8], b[:])
	if n%8 > 0 {
		out[n/8] = b[n/8] &^ (0xff >> (n % 8))
	}
	return out
}
