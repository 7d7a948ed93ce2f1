package point_test

import (
	"math/big"
	"math/rand"
	"slices"
	"testing"

	"beacon/api"
	"beacon/point"
)

// What the chapter says of the curve, reckoned with math/big.

// power2 is 2^k + add.
func power2(k uint, add int64) *big.Int {
	n := new(big.Int).Lsh(big.NewInt(1), k)
	return n.Add(n, big.NewInt(add))
}

var (
	prime = power2(255, -19)
	curve = divided(big.NewInt(-121665), big.NewInt(121666))
	order = new(big.Int).Add(power2(252, 0), digits("27742317777372353535851937790883648493"))
)

func digits(s string) *big.Int {
	n, _ := new(big.Int).SetString(s, 10)
	return n
}

func plus(a, b *big.Int) *big.Int {
	n := new(big.Int).Add(a, b)
	return n.Mod(n, prime)
}

func minus(a, b *big.Int) *big.Int {
	n := new(big.Int).Sub(a, b)
	return n.Mod(n, prime)
}

func product(a *big.Int, more ...*big.Int) *big.Int {
	n := new(big.Int).Set(a)
	for _, b := range more {
		n.Mul(n, b)
		n.Mod(n, prime)
	}
	return n
}

func divided(a, b *big.Int) *big.Int {
	n := new(big.Int).ModInverse(new(big.Int).Mod(b, prime), prime)
	return n.Mod(n.Mul(n, a), prime)
}

// pair is a point as the chapter has it: x and y from 0 to p - 1.
type pair struct{ x, y *big.Int }

func nought() pair { return pair{big.NewInt(0), big.NewInt(1)} }

// onCurve asks the curve's equation.
func onCurve(a pair) bool {
	xx, yy := product(a.x, a.x), product(a.y, a.y)
	return minus(yy, xx).Cmp(plus(big.NewInt(1), product(curve, xx, yy))) == 0
}

// added is the chapter's sum.
func added(a, b pair) pair {
	all := product(curve, a.x, b.x, a.y, b.y)
	one := big.NewInt(1)
	return pair{
		divided(plus(product(a.x, b.y), product(b.x, a.y)), plus(one, all)),
		divided(plus(product(a.y, b.y), product(a.x, b.x)), minus(one, all)),
	}
}

func opposite(a pair) pair { return pair{minus(new(big.Int), a.x), a.y} }

// doublings are a, twice a, 4 times a, and so on up to 2^255 times.
func doublings(a pair) []pair {
	out := []pair{a}
	for len(out) < 256 {
		last := out[len(out)-1]
		out = append(out, added(last, last))
	}
	return out
}

// taken is the first of the doublings taken n times.
func taken(n *big.Int, doubled []pair) pair {
	total := nought()
	for i := range n.BitLen() {
		if n.Bit(i) == 1 {
			total = added(total, doubled[i])
		}
	}
	return total
}

// bytesOf is a number below 2^256 as 32 bytes, little-endian, as it is.
func bytesOf(n *big.Int) [32]byte {
	var b [32]byte
	n.FillBytes(b[:])
	slices.Reverse(b[:])
	return b
}

func numberOf(b [32]byte) *big.Int {
	slices.Reverse(b[:])
	return new(big.Int).SetBytes(b[:])
}

// sent are the bytes of a point.
func sent(a pair) [32]byte {
	b := bytesOf(a.y)
	b[31] |= byte(a.x.Bit(0)) << 7
	return b
}

// received is the point that 32 bytes are; ok tells whether they are one.
func received(b [32]byte) (pair, bool) {
	y := numberOf(b)
	odd := y.Bit(255)
	y.SetBit(y, 255, 0)
	if y.Cmp(prime) >= 0 {
		return pair{}, false
	}
	yy := product(y, y)
	x := divided(minus(yy, big.NewInt(1)), plus(big.NewInt(1), product(curve, yy)))
	if x.ModSqrt(x, prime) == nil {
		return pair{}, false
	}
	if x.Bit(0) != odd {
		x = minus(new(big.Int), x)
	}
	return pair{x, y}, x.Bit(0) == odd
}

func generator() pair {
	a, ok := received(bytesOf(divided(big.NewInt(4), big.NewInt(5))))
	if !ok || a.x.Bit(0) != 0 {
		panic("the generator of the tests")
	}
	return a
}

// The points and numbers at which the calls are held.

func drawn(seed int64, count int) [][32]byte {
	r := rand.New(rand.NewSource(seed))
	out := make([][32]byte, count)
	for i := range out {
		r.Read(out[i][:])
	}
	return out
}

// eighth is a point of the order 8: a drawn point taken L times, if that is one.
func eighth() pair {
	for _, b := range drawn(1, 100) {
		if a, ok := received(b); ok {
			a = taken(order, doublings(a))
			if sent(taken(big.NewInt(4), doublings(a))) != sent(nought()) {
				return a
			}
		}
	}
	panic("no point of the order 8 was drawn")
}

// smallOnes are the eight points whose order divides 8, Zero the first.
func smallOnes() []pair {
	out := []pair{nought()}
	for e := eighth(); len(out) < 8; {
		out = append(out, added(out[len(out)-1], e))
	}
	return out
}

// large are points that the generator makes.
func large() []pair {
	doubled := doublings(generator())
	var out []pair
	for _, n := range []*big.Int{
		big.NewInt(1), big.NewInt(2), big.NewInt(3), big.NewInt(8), new(big.Int).Sub(order, big.NewInt(1)),
		numberOf(drawn(2, 1)[0]), numberOf(drawn(3, 1)[0]),
	} {
		out = append(out, taken(n, doubled))
	}
	return out
}

// points are those of small order, those that the generator makes, and sums of both.
func points() []pair {
	small, big := smallOnes(), large()
	out := append(slices.Clone(small), big...)
	for i, s := range small[1:] {
		out = append(out, added(s, big[i%len(big)]), added(s, big[0]))
	}
	return out
}

// numbers are the ones at which a multiple is told from one modulo something.
func numbers() []*big.Int {
	out := []*big.Int{
		big.NewInt(0), big.NewInt(1), big.NewInt(2), big.NewInt(7), big.NewInt(8), big.NewInt(15), big.NewInt(16),
		new(big.Int).Sub(order, big.NewInt(1)), order, new(big.Int).Add(order, big.NewInt(1)), new(big.Int).Lsh(order, 3),
		power2(252, 0), prime, power2(255, -1), power2(255, 0), power2(256, -1),
	}
	for _, b := range drawn(4, 3) {
		out = append(out, numberOf(b))
	}
	return out
}

// strangers are 32 bytes that are no point, for each of the reasons.
func strangers() [][32]byte {
	out := [][32]byte{
		{2}, {1, 31: 128}, bytesOf(prime), bytesOf(power2(255, -1)), bytesOf(power2(256, -1)),
		bytesOf(new(big.Int).Add(prime, big.NewInt(1))),
		bytesOf(new(big.Int).Add(power2(255, -1), prime)), // y = p - 1, and the highest bit
		bytesOf(new(big.Int).Add(power2(255, 0), prime)),
	}
	for _, b := range drawn(5, 20) {
		if _, ok := received(b); !ok {
			out = append(out, b)
		}
	}
	return out
}

func hold(t *testing.T, what string, got [32]byte, e api.Errno, want pair) {
	t.Helper()
	if got != sent(want) || e != api.OK {
		t.Errorf("%s: %x, %v; want %x", what, got, e, sent(want))
	}
}

// The chapter's examples.

func TestExamples(t *testing.T) {
	b := [32]byte{88}
	for i := 1; i < 32; i++ {
		b[i] = 102
	}
	zero := [32]byte{1}
	if point.Generator() != b || point.Zero() != zero {
		t.Error("Generator, Zero", point.Generator(), point.Zero())
	}
	for _, p := range [][32]byte{b, zero, sent(eighth())} {
		if q, e := point.Mul([32]byte{}, p); q != zero || e != api.OK {
			t.Error("Mul(0, p)", q, e)
		}
	}
	l := [32]byte{237, 211, 245, 92, 26, 99, 18, 88, 214, 156, 247, 162, 222, 249, 222, 20, 31: 16}
	if q, e := point.Mul(l, b); q != zero || e != api.OK {
		t.Error("Mul(L, B)", q, e)
	}
	if e := point.Check([32]byte{2}); e != api.ErrForm {
		t.Error("Check of 2", e)
	}
	if e := point.Check([32]byte{1, 31: 128}); e != api.ErrForm {
		t.Error("Check of 1 with the highest bit", e)
	}
	if s, e := point.Small(zero); !s || e != api.OK {
		t.Error("Small(Zero)", s, e)
	}
	if s, e := point.Small(b); s || e != api.OK {
		t.Error("Small(B)", s, e)
	}
	if q, e := point.Neg(zero); q != zero || e != api.OK {
		t.Error("Neg(Zero)", q, e)
	}
}

// P4.1: Check, Zero, Generator.

func TestTheTestsOwnPoints(t *testing.T) {
	seen := map[[32]byte]bool{}
	for _, a := range smallOnes() {
		seen[sent(a)] = true
	}
	if len(seen) != 8 || sent(taken(order, doublings(generator()))) != sent(nought()) {
		t.Error("the orders of the points", len(seen))
	}
	for _, a := range points() {
		b, ok := received(sent(a))
		if !onCurve(a) || !ok || a.x.Cmp(b.x) != 0 || a.y.Cmp(b.y) != 0 {
			t.Errorf("%x", sent(a))
		}
	}
}

func TestZeroAndGenerator(t *testing.T) {
	if point.Zero() != sent(nought()) || point.Generator() != sent(generator()) {
		t.Error(point.Zero(), point.Generator())
	}
	if point.Check(point.Zero()) != api.OK || point.Check(point.Generator()) != api.OK {
		t.Error("Check of them")
	}
}

// withAndWithout are the 32 bytes of y with the highest bit clear and set.
func withAndWithout(y *big.Int) [2][32]byte {
	b := bytesOf(y)
	c := b
	c[31] |= 128
	return [2][32]byte{b, c}
}

func TestCheckAboutThePrime(t *testing.T) {
	for d := int64(0); d < 19; d++ {
		for _, b := range withAndWithout(new(big.Int).Add(prime, big.NewInt(d))) {
			if e := point.Check(b); e != api.ErrForm {
				t.Errorf("p + %d: %x: %v", d, b, e)
			}
		}
	}
	for d := int64(1); d < 40; d++ {
		for _, b := range withAndWithout(new(big.Int).Sub(prime, big.NewInt(d))) {
			holdCheck(t, b)
		}
	}
	for y := int64(0); y < 300; y++ {
		for _, b := range withAndWithout(big.NewInt(y)) {
			holdCheck(t, b)
		}
	}
}

func holdCheck(t *testing.T, b [32]byte) bool {
	t.Helper()
	want := api.ErrForm
	a, ok := received(b)
	if ok {
		want = api.OK
	}
	if ok && (!onCurve(a) || sent(a) != b) {
		t.Fatalf("the tests' point %x", b)
	}
	if e := point.Check(b); e != want {
		t.Errorf("Check(%x): %v, want %v", b, e, want)
	}
	return ok
}

// Where x is 0 there is one point, not two.
func TestCheckWhereXIsNought(t *testing.T) {
	for _, y := range []*big.Int{big.NewInt(1), new(big.Int).Sub(prime, big.NewInt(1))} {
		both := withAndWithout(y)
		if point.Check(both[0]) != api.OK || point.Check(both[1]) != api.ErrForm {
			t.Errorf("y = %x: %v, %v", y, point.Check(both[0]), point.Check(both[1]))
		}
	}
	both := withAndWithout(new(big.Int))
	if point.Check(both[0]) != api.OK || point.Check(both[1]) != api.OK {
		t.Error("y = 0, where two x fit")
	}
}

func TestCheckOfDrawnBytes(t *testing.T) {
	found := 0
	for _, b := range drawn(6, 3000) {
		if holdCheck(t, b) {
			found++
		}
	}
	if found < 1300 || found > 1700 {
		t.Error("about half of all y have an x, and of these", found)
	}
}

func TestStrangersAreRefused(t *testing.T) {
	good := point.Generator()
	for _, bad := range strangers() {
		if point.Check(bad) != api.ErrForm {
			t.Errorf("Check(%x)", bad)
		}
		refused := func(what string, got [32]byte, e api.Errno) {
			if got != [32]byte{} || e != api.ErrForm {
				t.Errorf("%s of %x: %x, %v", what, bad, got, e)
			}
		}
		q, e := point.Add(bad, good)
		refused("Add, first", q, e)
		q, e = point.Add(good, bad)
		refused("Add, second", q, e)
		q, e = point.Add(bad, bad)
		refused("Add, both", q, e)
		q, e = point.Neg(bad)
		refused("Neg", q, e)
		for _, n := range [][32]byte{{}, {1}, {8}, bytesOf(order)} {
			q, e = point.Mul(n, bad)
			refused("Mul", q, e)
		}
		q, e = point.Clear(bad)
		refused("Clear", q, e)
		if s, e := point.Small(bad); s || e != api.ErrForm {
			t.Errorf("Small of %x: %v, %v", bad, s, e)
		}
	}
}

// P4.2: Add, Neg.

func TestAdd(t *testing.T) {
	all := points()
	for _, a := range all {
		for _, b := range all {
			q, e := point.Add(sent(a), sent(b))
			hold(t, "Add", q, e, added(a, b))
		}
	}
}

func TestAddOfDrawnPoints(t *testing.T) {
	last := generator()
	for _, b := range drawn(7, 1000) {
		if a, ok := received(b); ok {
			q, e := point.Add(sent(last), b)
			hold(t, "Add", q, e, added(last, a))
			last = a
		}
	}
}

func TestNeg(t *testing.T) {
	for _, a := range points() {
		q, e := point.Neg(sent(a))
		hold(t, "Neg", q, e, opposite(a))
		if s, e := point.Add(q, sent(a)); s != point.Zero() || e != api.OK {
			t.Errorf("Neg(%x) and it: %x, %v", sent(a), s, e)
		}
	}
}

// P4.2: Mul, Base.

func TestMul(t *testing.T) {
	for _, a := range points() {
		doubled := doublings(a)
		for _, n := range numbers() {
			q, e := point.Mul(bytesOf(n), sent(a))
			hold(t, "Mul by "+n.String(), q, e, taken(n, doubled))
		}
	}
}

// Each single bit of n counts for its own power of 2, the highest too.
func TestMulByEachBit(t *testing.T) {
	a := added(generator(), eighth())
	for i, want := range doublings(a) {
		q, e := point.Mul(bytesOf(power2(uint(i), 0)), sent(a))
		hold(t, "Mul by one bit", q, e, want)
	}
}

// At a point of the order 8 the number counts modulo 8, not modulo L.
func TestMulIsNotModuloTheOrder(t *testing.T) {
	small := smallOnes()
	for _, n := range numbers() {
		rest := new(big.Int).Mod(n, big.NewInt(8)).Int64()
		q, e := point.Mul(bytesOf(n), sent(small[1]))
		hold(t, "Mul by "+n.String(), q, e, small[rest])
	}
	if q, _ := point.Mul(bytesOf(order), sent(small[1])); q == point.Zero() {
		t.Error("L times a point of the order 8 is Zero")
	}
}

func TestBase(t *testing.T) {
	doubled := doublings(generator())
	all := numbers()
	for _, b := range drawn(8, 30) {
		all = append(all, numberOf(b))
	}
	for _, n := range all {
		got := point.Base(bytesOf(n))
		hold(t, "Base of "+n.String(), got, api.OK, taken(n, doubled))
		if q, e := point.Mul(bytesOf(n), point.Generator()); q != got || e != api.OK {
			t.Errorf("Base and Mul of %x: %x, %x, %v", n, got, q, e)
		}
	}
}

// P4.2: Clear, Small.

func TestClearAndSmall(t *testing.T) {
	for i, a := range points() {
		q, e := point.Clear(sent(a))
		hold(t, "Clear", q, e, taken(big.NewInt(8), doublings(a)))
		if s, e := point.Small(sent(a)); s != (i < 8) || e != api.OK {
			t.Errorf("Small(%x): %v, %v", sent(a), s, e)
		}
	}
}

func TestClearAndSmallOfMultiples(t *testing.T) {
	for _, p := range [][32]byte{point.Generator(), sent(eighth()), sent(added(generator(), eighth()))} {
		for _, n := range numbers() {
			q, _ := point.Mul(bytesOf(n), p)
			a, ok := received(q)
			if !ok {
				t.Fatalf("Mul(%x, %x): %x is no point", n, p, q)
			}
			want := taken(big.NewInt(8), doublings(a))
			c, e := point.Clear(q)
			hold(t, "Clear", c, e, want)
			if s, e := point.Small(q); s != (sent(want) == sent(nought())) || e != api.OK {
				t.Errorf("Small(%x): %v, %v", q, s, e)
			}
		}
	}
}

func BenchmarkBase(b *testing.B) {
	n := point.Generator()
	for range b.N {
		n = point.Base(n)
	}
}

func BenchmarkCheck(b *testing.B) {
	p := point.Generator()
	for range b.N {
		point.Check(p)
	}
}
