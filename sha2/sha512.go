package sha2

import "math/bits"

// Sum512 is the SHA-512 of b.
func Sum512(b []byte) [64]byte {
	state := squares512
	rest := b
	for len(rest) >= block512 {
		state = mix512(state, rest[:block512])
		rest = rest[block512:]
	}
	var last [2 * block512]byte
	held := copy(last[:], rest)
	last[held] = 128
	end := block512
	if held >= block512-16 { // no room is left here for the number of bits
		end = 2 * block512
	}
	high, low := bits.Mul64(uint64(len(b)), 8)
	putWord64(last[end-16:end-8], high)
	putWord64(last[end-8:end], low)
	state = mix512(state, last[:block512])
	if end > block512 {
		state = mix512(state, last[block512:])
	}
	return bytes512(state)
}

// mix512 is the state behind one block of 128 bytes.
func mix512(state [8]uint64, block []byte) [8]uint64 {
	w := schedule512(block)
	a, b, c, d := state[0], state[1], state[2], state[3]
	e, f, g, h := state[4], state[5], state[6], state[7]
	for t := range w {
		t1 := h + upper1of512(e) + ((e & f) ^ (^e & g)) + cubes512[t] + w[t]
		t2 := upper0of512(a) + ((a & b) ^ (a & c) ^ (b & c))
		a, b, c, d, e, f, g, h = t1+t2, a, b, c, d+t1, e, f, g
	}
	return [8]uint64{
		state[0] + a, state[1] + b, state[2] + c, state[3] + d,
		state[4] + e, state[5] + f, state[6] + g, state[7] + h,
	}
}

// schedule512 is W: the block's own 16 words, and those that come of them.
func schedule512(block []byte) [80]uint64 {
	var w [80]uint64
	for t := range 16 {
		w[t] = word64(block[8*t : 8*t+8])
	}
	for t := 16; t < len(w); t++ {
		w[t] = lower1of512(w[t-2]) + w[t-7] + lower0of512(w[t-15]) + w[t-16]
	}
	return w
}

func upper0of512(x uint64) uint64 { return rotr64(x, 28) ^ rotr64(x, 34) ^ rotr64(x, 39) }

func upper1of512(x uint64) uint64 { return rotr64(x, 14) ^ rotr64(x, 18) ^ rotr64(x, 41) }

func lower0of512(x uint64) uint64 { return rotr64(x, 1) ^ rotr64(x, 8) ^ x>>7 }

func lower1of512(x uint64) uint64 { return rotr64(x, 19) ^ rotr64(x, 61) ^ x>>6 }

func rotr64(x uint64, n int) uint64 { return bits.RotateLeft64(x, -n) }

func word64(b []byte) uint64 {
	return uint64(word32(b[:4]))<<32 | uint64(word32(b[4:8]))
}

func putWord64(b []byte, x uint64) {
	putWord32(b[:4], uint32(x>>32))
	putWord32(b[4:8], uint32(x))
}

func bytes512(state [8]uint64) [64]byte {
	var out [64]byte
	for i, x := range state {
		putWord64(out[8*i:8*i+8], x)
	}
	return out
}
