package sha2

import "math/bits"

// mix256 is the state behind one block of 64 bytes.
func mix256(state [8]uint32, block []byte) [8]uint32 {
	w := schedule256(block)
	a, b, c, d := state[0], state[1], state[2], state[3]
	e, f, g, h := state[4], state[5], state[6], state[7]
	for t := range w {
		t1 := h + upper1of256(e) + ((e & f) ^ (^e & g)) + cubes256[t] + w[t]
		t2 := upper0of256(a) + ((a & b) ^ (a & c) ^ (b & c))
		a, b, c, d, e, f, g, h = t1+t2, a, b, c, d+t1, e, f, g
	}
	return [8]uint32{
		state[0] + a, state[1] + b, state[2] + c, state[3] + d,
		state[4] + e, state[5] + f, state[6] + g, state[7] + h,
	}
}

// schedule256 is W: the block's own 16 words, and those that come of them.
func schedule256(block []byte) [64]uint32 {
	var w [64]uint32
	for t := range 16 {
		w[t] = word32(block[4*t : 4*t+4])
	}
	for t := 16; t < len(w); t++ {
		w[t] = lower1of256(w[t-2]) + w[t-7] + lower0of256(w[t-15]) + w[t-16]
	}
	return w
}

// The chapter's S0, S1, s0 and s1 are upper0, upper1, lower0 and lower1 here: Go tells capitals from small letters by who may see them.
func upper0of256(x uint32) uint32 { return rotr32(x, 2) ^ rotr32(x, 13) ^ rotr32(x, 22) }

func upper1of256(x uint32) uint32 { return rotr32(x, 6) ^ rotr32(x, 11) ^ rotr32(x, 25) }

func lower0of256(x uint32) uint32 { return rotr32(x, 7) ^ rotr32(x, 18) ^ x>>3 }

func lower1of256(x uint32) uint32 { return rotr32(x, 17) ^ rotr32(x, 19) ^ x>>10 }

func rotr32(x uint32, n int) uint32 { return bits.RotateLeft32(x, -n) }

func word32(b []byte) uint32 {
	return uint32(b[0])<<24 | uint32(b[1])<<16 | uint32(b[2])<<8 | uint32(b[3])
}

func putWord32(b []byte, x uint32) {
	b[0], b[1], b[2], b[3] = byte(x>>24), byte(x>>16), byte(x>>8), byte(x)
}

func bytes256(state [8]uint32) [32]byte {
	var out [32]byte
	for i, x := range state {
		putWord32(out[4*i:4*i+4], x)
	}
	return out
}
