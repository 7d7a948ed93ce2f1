package sha2

// MAC is the HMAC of a key and a message, with SHA-256.
func MAC(key, message []byte) [32]byte {
	k := keyBlock(key)
	inside := keyed(k, 54, message)
	return keyed(k, 92, inside[:])
}

// keyBlock is the key, or its hash if it is too long, with noughts up to a whole block.
func keyBlock(key []byte) [block256]byte {
	var k [block256]byte
	if len(key) > block256 {
		short := Sum256(key)
		copy(k[:], short[:])
	} else {
		copy(k[:], key)
	}
	return k
}

// keyed is the SHA-256 of the key, each byte xor mask, and of the message.
func keyed(k [block256]byte, mask byte, message []byte) [32]byte {
	for i := range k {
		k[i] ^= mask
	}
	h := begin()
	h.Write(k[:])
	h.Write(message)
	return h.Sum()
}
