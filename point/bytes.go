package point

import (
	"beacon/api"
	"beacon/field"
)

// parity is the bit of the last byte that tells whether x is odd.
const parity = 128

// read answers the point that the 32 bytes are, or ErrForm.
func read(p [32]byte) (point, api.Errno) {
	odd := p[31]&parity != 0
	y := p
	y[31] &^= parity
	if !field.Canonical(y) {
		return point{}, api.ErrForm
	}
	x, e := field.Sqrt(squareOfX(y))
	if e != api.OK || odd && x == [32]byte{} {
		return point{}, api.ErrForm
	}
	if odd {
		x = field.Sub([32]byte{}, x)
	}
	return at(x, y), api.OK
}

// squareOfX is what the curve's equation asks of the square of x: (y^2 - 1) /
// (1 + d y^2). The divisor is never 0, as d is no square and -1 is one.
func squareOfX(y [32]byte) [32]byte {
	square := field.Mul(y, y)
	divisor := field.Add(one, field.Mul(curve, square))
	return field.Mul(field.Sub(square, one), field.Inv(divisor))
}

// write answers the 32 bytes of a point.
func write(a point) [32]byte {
	inverse := field.Inv(a.z)
	x, p := field.Mul(a.x, inverse), field.Mul(a.y, inverse)
	if x[0]&1 == 1 {
		p[31] |= parity
	}
	return p
}
