package field

import "math/bits"

// number is four words of 64 bits, the least first: a number below 2^256 that
// stands for itself modulo p. Only settle brings it below p, so that a chain
// of products pays for that once. It is a struct, not an array, because the
// compiler keeps small structs in registers.
type number struct{ w0, w1, w2, w3 uint64 }

// wrap is 2^256 modulo p: what one unit beyond the fourth word is worth.
const wrap = 38

func load(b [32]byte) number {
	return number{word(b[0:8]), word(b[8:16]), word(b[16:24]), word(b[24:32])}
}

func word(b []byte) uint64 {
	_ = b[7]
	return uint64(b[0]) | uint64(b[1])<<8 | uint64(b[2])<<16 | uint64(b[3])<<24 |
		uint64(b[4])<<32 | uint64(b[5])<<40 | uint64(b[6])<<48 | uint64(b[7])<<56
}

// store settles the number first: what leaves the package is canonical.
func store(n number) [32]byte {
	n = settle(n)
	var b [32]byte
	putWord(b[0:8], n.w0)
	putWord(b[8:16], n.w1)
	putWord(b[16:24], n.w2)
	putWord(b[24:32], n.w3)
	return b
}

func putWord(b []byte, w uint64) {
	_ = b[7]
	b[0] = byte(w)
	b[1] = byte(w >> 8)
	b[2] = byte(w >> 16)
	b[3] = byte(w >> 24)
	b[4] = byte(w >> 32)
	b[5] = byte(w >> 40)
	b[6] = byte(w >> 48)
	b[7] = byte(w >> 56)
}

// settle answers the same number below p.
func settle(n number) number {
	// 2^255 is 19 modulo p, so the highest bit can be traded for 19; what is
	// left is at most 2^255 + 18, below 2p.
	high := n.w3 >> 63
	n.w3 &^= 1 << 63
	n, _ = plus(n, number{w0: 19 * high})
	// It is p or more just if 19 more reach 2^255, and then 19 more without
	// that bit are p less.
	less, _ := plus(n, number{w0: 19})
	if less.w3>>63 == 1 {
		less.w3 &^= 1 << 63
		return less
	}
	return n
}

func plus(a, b number) (number, uint64) {
	w0, c := bits.Add64(a.w0, b.w0, 0)
	w1, c := bits.Add64(a.w1, b.w1, c)
	w2, c := bits.Add64(a.w2, b.w2, c)
	w3, c := bits.Add64(a.w3, b.w3, c)
	return number{w0, w1, w2, w3}, c
}

func minus(a, b number) (number, uint64) {
	w0, c := bits.Sub64(a.w0, b.w0, 0)
	w1, c := bits.Sub64(a.w1, b.w1, c)
	w2, c := bits.Sub64(a.w2, b.w2, c)
	w3, c := bits.Sub64(a.w3, b.w3, c)
	return number{w0, w1, w2, w3}, c
}

func add(a, b number) number { return fold(plus(a, b)) }

// fold brings n and over units of 2^256 beyond it into four words; over is at
// most wrap. If the first sum wraps round, so little of it is left that the
// second can't.
func fold(n number, over uint64) number {
	n, again := plus(n, number{w0: over * wrap})
	n, _ = plus(n, number{w0: again * wrap})
	return n
}

// sub mends a borrow of 2^256 as fold mends a carry: if taking wrap off
// borrows once more, so much is left that the second time can't.
func sub(a, b number) number {
	n, borrow := minus(a, b)
	n, again := minus(n, number{w0: borrow * wrap})
	n, _ = minus(n, number{w0: again * wrap})
	return n
}

// mul adds the rows of the product one by one: after each the least word is
// settled and the others move down.
func mul(a, b number) number {
	row, top := scale(b, a.w0)
	low0, high := shift(row, top)
	row, top = scale(b, a.w1)
	low1, high := nextRow(high, row, top)
	row, top = scale(b, a.w2)
	low2, high := nextRow(high, row, top)
	row, top = scale(b, a.w3)
	low3, high := nextRow(high, row, top)
	row, top = scale(high, wrap)
	n, carry := plus(number{low0, low1, low2, low3}, row)
	return fold(n, top+carry)
}

// scale answers n times one word: four words, and the fifth.
func scale(n number, w uint64) (number, uint64) {
	h0, w0 := bits.Mul64(n.w0, w)
	h1, w1 := bits.Mul64(n.w1, w)
	h2, w2 := bits.Mul64(n.w2, w)
	h3, w3 := bits.Mul64(n.w3, w)
	w1, c := bits.Add64(w1, h0, 0)
	w2, c = bits.Add64(w2, h1, c)
	w3, c = bits.Add64(w3, h2, c)
	return number{w0, w1, w2, w3}, h3 + c
}

// shift parts the least word of five from the others.
func shift(n number, top uint64) (uint64, number) {
	return n.w0, number{n.w1, n.w2, n.w3, top}
}

// nextRow adds a row to what is left of those ahead; the sum has five words,
// since a product of one word and four, and four words more, is below 2^320.
func nextRow(sum, row number, top uint64) (uint64, number) {
	sum, carry := plus(sum, row)
	return shift(sum, top+carry)
}
