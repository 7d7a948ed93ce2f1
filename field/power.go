package field

// squared squares n as many times as is asked.
func squared(n number, times int) number {
	for range times {
		n = mul(n, n)
	}
	return n
}

// ones answers n to the power 2^250 - 1, which begins the powers of both
// inverse and rootOrNone: a row of 250 one bits, made out of shorter rows.
func ones(n number) number {
	r2 := mul(squared(n, 1), n)
	r4 := mul(squared(r2, 2), r2)
	r5 := mul(squared(r4, 1), n)
	r10 := mul(squared(r5, 5), r5)
	r20 := mul(squared(r10, 10), r10)
	r40 := mul(squared(r20, 20), r20)
	r50 := mul(squared(r40, 10), r10)
	r100 := mul(squared(r50, 50), r50)
	r200 := mul(squared(r100, 100), r100)
	return mul(squared(r200, 50), r50)
}

// inverse answers n to the power p - 2 = (2^250 - 1) 2^5 + 11: by Fermat its
// product with n is 1, and 0 stays 0.
func inverse(n number) number {
	n2 := squared(n, 1)
	n11 := mul(mul(squared(n, 3), n2), n)
	return mul(squared(ones(n), 5), n11)
}

// rootOrNone answers a root of n, if n has one, and else some number whose
// square isn't n. The power (p + 3) / 8 = (2^250 - 1) 2^2 + 2 of a square has
// n or -n as its own square; where it is -n, a root of -1 is missing.
func rootOrNone(n number) number {
	root := mul(squared(ones(n), 2), squared(n, 1))
	if settle(mul(root, root)) == settle(n) {
		return root
	}
	return mul(root, rootOfMinusOne())
}

// rootOfMinusOne answers 2 to the power (p - 1) / 4.
func rootOfMinusOne() number {
	return number{0xc4ee1b274a0ea0b0, 0x2f431806ad2fe478, 0x2b4d00993dfbd7a7, 0x2b8324804fc1df0b}
}

// evenOf answers the one of n and -n that is even, once it is settled.
func evenOf(n number) number {
	n = settle(n)
	if n.w0&1 == 1 {
		return sub(number{}, n)
	}
	return n
}
