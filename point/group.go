package point

import "beacon/field"

// point has the coordinates x / z and y / z, and t is x y / z: so sums need no
// division, and a chain of them pays for one only when it is written out.
type point struct{ x, y, z, t [32]byte }

var one = [32]byte{1}

// curve is d, -121665 / 121666.
var curve = [32]byte{
	163, 120, 89, 19, 202, 77, 235, 117, 171, 216, 65, 65, 77, 10, 112, 0,
	152, 232, 121, 119, 121, 64, 199, 140, 115, 254, 111, 43, 238, 108, 3, 82,
}

// generatorX and generatorY are the coordinates of B. As x is even, y stands
// for the bytes of B too.
var generatorX = [32]byte{
	26, 213, 37, 143, 96, 45, 86, 201, 178, 167, 37, 149, 96, 199, 44, 105,
	92, 220, 214, 253, 49, 226, 164, 192, 254, 83, 110, 205, 211, 54, 105, 33,
}

var generatorY = [32]byte{
	88, 102, 102, 102, 102, 102, 102, 102, 102, 102, 102, 102, 102, 102, 102, 102,
	102, 102, 102, 102, 102, 102, 102, 102, 102, 102, 102, 102, 102, 102, 102, 102,
}

// at is the point with the coordinates x and y.
func at(x, y [32]byte) point { return point{x, y, one, field.Mul(x, y)} }

func neutral() point { return point{y: one, z: one} }

func generator() point { return at(generatorX, generatorY) }

// mirror is the point whose sum with a is neutral: x counts the other way.
func mirror(a point) point {
	a.x = field.Sub([32]byte{}, a.x)
	a.t = field.Sub([32]byte{}, a.t)
	return a
}

// sum is the curve's sum; its divisors are never 0, so that it holds for any
// two points, equal or neutral ones too.
func sum(a, b point) point {
	less := field.Mul(field.Sub(a.y, a.x), field.Sub(b.y, b.x))
	more := field.Mul(field.Add(a.y, a.x), field.Add(b.y, b.x))
	turn := field.Mul(curve, field.Mul(a.t, b.t))
	turn = field.Add(turn, turn)
	both := field.Mul(a.z, b.z)
	both = field.Add(both, both)
	// The numerators are twice x1 y2 + x2 y1 and twice y1 y2 + x1 x2.
	return quotients(field.Sub(more, less), field.Add(both, turn), field.Add(more, less), field.Sub(both, turn))
}

// double is sum(a, a) with fewer products: on the curve 1 + d x^2 y^2 is y^2 -
// x^2, and 1 - d x^2 y^2 is 2 less that.
func double(a point) point {
	xx, yy, zz := field.Mul(a.x, a.x), field.Mul(a.y, a.y), field.Mul(a.z, a.z)
	xy := field.Mul(a.x, a.y)
	below := field.Sub(yy, xx)
	return quotients(field.Add(xy, xy), below, field.Add(yy, xx), field.Sub(field.Add(zz, zz), below))
}

// quotients is the point with the coordinates x / xUnder and y / yUnder.
func quotients(x, xUnder, y, yUnder [32]byte) point {
	return point{
		x: field.Mul(x, yUnder),
		y: field.Mul(y, xUnder),
		z: field.Mul(xUnder, yUnder),
		t: field.Mul(x, y),
	}
}

// times is a taken n times, n in digits of four bits, the greatest first.
func times(n [32]byte, a point) point {
	few := multiples(a)
	total := neutral()
	for i := 31; i >= 0; i-- {
		total = sum(sixteenfold(total), few[n[i]>>4])
		total = sum(sixteenfold(total), few[n[i]&15])
	}
	return total
}

// multiples are a taken 0 to 15 times.
func multiples(a point) [16]point {
	few := [16]point{neutral()}
	for i := 1; i < len(few); i++ {
		few[i] = sum(few[i-1], a)
	}
	return few
}

func sixteenfold(a point) point { return double(double(double(double(a)))) }
