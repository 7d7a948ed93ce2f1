// Package sha2 is layer 1: SHA-256 and SHA-512, HMAC with SHA-256, and a Hash that takes bytes piece by piece.
package sha2

const (
	block256 = 64
	block512 = 128
)

// Sum256 is the SHA-256 of b.
func Sum256(b []byte) [32]byte {
	h := begin()
	h.Write(b)
	return h.Sum()
}

// Hash is a SHA-256 on its way.
type Hash struct {
	state  [8]uint32
	block  [block256]byte // the bytes behind the last whole block
	length uint64
}

// begin gives a Hash by value, so that a sum at once needs no memory of its own.
func begin() Hash { return Hash{state: squares256} }

// New is a Hash that has taken nothing yet.
func New() *Hash {
	h := begin()
	return &h
}

// Write takes b behind all that was written before.
func (h *Hash) Write(b []byte) {
	if h == nil {
		return
	}
	held := h.held()
	h.length += uint64(len(b))
	if held > 0 {
		n := copy(h.block[held:], b)
		if held+n < block256 {
			return
		}
		h.state = mix256(h.state, h.block[:])
		b = b[n:]
	}
	for len(b) >= block256 {
		h.state = mix256(h.state, b[:block256])
		b = b[block256:]
	}
	copy(h.block[:], b)
}

// Sum is the SHA-256 of all that was written so far.
func (h *Hash) Sum() [32]byte {
	if h == nil {
		return [32]byte{}
	}
	var last [2 * block256]byte
	held := copy(last[:], h.block[:h.held()])
	last[held] = 128
	end := block256
	if held >= block256-8 { // no room is left here for the number of bits
		end = 2 * block256
	}
	putWord64(last[end-8:end], h.length*8)
	state := mix256(h.state, last[:block256])
	if end > block256 {
		state = mix256(state, last[block256:])
	}
	return bytes256(state)
}

// Len is how many bytes were written so far.
func (h *Hash) Len() uint64 {
	if h == nil {
		return 0
	}
	return h.length
}

// Copy is another Hash that has taken the same.
func (h *Hash) Copy() *Hash {
	if h == nil {
		return nil
	}
	c := *h
	return &c
}

// held is how many bytes wait in the block.
func (h *Hash) held() int { return int(h.length % block256) }
