package scalar

import "math/bits"

// number is four words of 64 bits, the least first: a number below 2^256.
type number [4]uint64

// tail is L - 2^252, so 2^252 is worth 0 - tail modulo L.
func tail() number { return number{0x5812631a5cf5d3ed, 0x14def9dea2f79cd6, 0, 0} }

// order is L.
func order() number {
	n := tail()
	n[3] = 1 << 60
	return n
}

func load(b [32]byte) number {
	var n number
	for i, x := range b {
		n[i/8] |= uint64(x) << (8 * (i % 8))
	}
	return n
}

func store(n number) [32]byte {
	var b [32]byte
	for i := range b {
		b[i] = byte(n[i/8] >> (8 * (i % 8)))
	}
	return b
}

func plus(a, b number) (number, uint64) {
	var carry uint64
	for i := range a {
		a[i], carry = bits.Add64(a[i], b[i], carry)
	}
	return a, carry
}

func minus(a, b number) (number, uint64) {
	var borrow uint64
	for i := range a {
		a[i], borrow = bits.Sub64(a[i], b[i], borrow)
	}
	return a, borrow
}

// scale answers n times one word: four words, and the fifth.
func scale(n number, w uint64) (number, uint64) {
	var over, carry uint64
	for i := range n {
		high, low := bits.Mul64(n[i], w)
		n[i], carry = bits.Add64(low, over, 0)
		over = high + carry
	}
	return n, over
}

// productPlus answers a times b, and c, as the upper and the lower four of
// eight words; eight are enough for any three numbers. It adds the rows of the
// product one by one, to c at first: after each the least word is settled and
// the others move down.
func productPlus(a, b, c number) (high, low number) {
	high = c
	for i := range a {
		row, top := scale(b, a[i])
		sum, carry := plus(high, row)
		low[i] = sum[0]
		high = number{sum[1], sum[2], sum[3], top + carry}
	}
	return high, low
}

// modulo answers the number of eight words modulo L, by long division: the
// rest of the upper words is carried on into the lower ones.
func modulo(high, low number) number {
	return restAfter(restAfter(number{}, high), low)
}

// restAfter answers rest 2^256 + n modulo L, for a rest below L.
func restAfter(rest, n number) number {
	for i := len(n) - 1; i >= 0; i-- {
		rest = restAfterDigit(rest, n[i]>>32)
		rest = restAfterDigit(rest, n[i]&(1<<32-1))
	}
	return rest
}

// restAfterDigit answers rest 2^32 + digit modulo L, for a rest below L and a
// digit below 2^32. Of that number, the part from 2^252 on is at most 2^32, so
// what it is worth is above 0 - L, and what is left without it is below L:
// adding L once is enough.
func restAfterDigit(rest number, digit uint64) number {
	over := rest[3] >> 28
	rest[3] &= 1<<28 - 1
	left := number{
		rest[0]<<32 | digit,
		rest[1]<<32 | rest[0]>>32,
		rest[2]<<32 | rest[1]>>32,
		rest[3]<<32 | rest[2]>>32,
	}
	worth, _ := scale(tail(), over)
	left, borrow := minus(left, worth)
	if borrow == 1 {
		left, _ = plus(left, order())
	}
	return left
}

// negative answers 0 - n modulo L, for n below L.
func negative(n number) number {
	if n == (number{}) {
		return n
	}
	n, _ = minus(order(), n)
	return n
}
