package scalar_test

import (
	"math/big"
	"math/rand"
	"slices"
	"testing"

	"beacon/scalar"
)

// power2 is 2^k + add.
func power2(k uint, add int64) *big.Int {
	n := new(big.Int).Lsh(big.NewInt(1), k)
	return n.Add(n, big.NewInt(add))
}

// order is L, as the chapter writes it out in digits.
func order() *big.Int {
	n, _ := new(big.Int).SetString("27742317777372353535851937790883648493", 10)
	return n.Add(n, power2(252, 0))
}

// times is k L + add.
func times(k, add int64) *big.Int {
	n := new(big.Int).Mul(order(), big.NewInt(k))
	return n.Add(n, big.NewInt(add))
}

// bytesOf is a number below 2^256 as 32 bytes, little-endian, as it is.
func bytesOf(n *big.Int) [32]byte {
	var b [32]byte
	n.FillBytes(b[:])
	slices.Reverse(b[:])
	return b
}

// wideOf is a number below 2^512 as 64 bytes, little-endian, as it is.
func wideOf(n *big.Int) [64]byte {
	var b [64]byte
	n.FillBytes(b[:])
	slices.Reverse(b[:])
	return b
}

func numberOf(b []byte) *big.Int {
	b = slices.Clone(b)
	slices.Reverse(b)
	return new(big.Int).SetBytes(b)
}

func small(n byte) [32]byte { return [32]byte{n} }

// edges are the numbers of 32 bytes about each multiple of L and each power of 2 where a word, a digit or the last of
// L's bits ends.
func edges() []*big.Int {
	var out []*big.Int
	near := func(n *big.Int) {
		for d := int64(-2); d <= 2; d++ {
			m := new(big.Int).Add(n, big.NewInt(d))
			if m.Sign() >= 0 && m.BitLen() <= 256 {
				out = append(out, m)
			}
		}
	}
	for k := int64(0); k <= 16; k++ {
		near(times(k, 0))
	}
	near(new(big.Int).Rsh(order(), 1))
	near(new(big.Int).Sub(order(), power2(252, 0)))
	for _, k := range []uint{8, 32, 64, 96, 128, 192, 220, 224, 251, 252, 253, 254, 255, 256} {
		near(power2(k, 0))
	}
	return out
}

// drawnOf are numbers of up to so many bytes, drawn the same way each time; some are short, some have long rows of
// equal bits.
func drawnOf(size, count int, seed int64) []*big.Int {
	r := rand.New(rand.NewSource(seed))
	top := uint(8 * size)
	b := make([]byte, size)
	var out []*big.Int
	for i := range count {
		r.Read(b)
		n := numberOf(b)
		switch i % 4 {
		case 1:
			n.Rsh(n, uint(r.Intn(int(top))))
		case 2:
			n = new(big.Int).Xor(power2(top, -1), n.Rsh(n, uint(r.Intn(int(top)))))
		}
		out = append(out, n)
	}
	return out
}

func drawn(count int, seed int64) []*big.Int { return drawnOf(32, count, seed) }

// hold asks that got is the one canonical form of want modulo L.
func hold(t *testing.T, what string, got [32]byte, want *big.Int, of ...*big.Int) {
	t.Helper()
	want = new(big.Int).Mod(want, order())
	if got != bytesOf(want) {
		t.Fatalf("%s of %x: %x, want %x", what, of, numberOf(got[:]), want)
	}
	if !scalar.Canonical(got) {
		t.Fatalf("%s of %x: %x isn't canonical", what, of, want)
	}
}

func holdNeg(t *testing.T, a *big.Int) {
	t.Helper()
	hold(t, "Neg", scalar.Neg(bytesOf(a)), new(big.Int).Neg(a), a)
}

func holdAdd(t *testing.T, a, b *big.Int) {
	t.Helper()
	hold(t, "Add", scalar.Add(bytesOf(a), bytesOf(b)), new(big.Int).Add(a, b), a, b)
}

func holdMulAdd(t *testing.T, a, b, c *big.Int) {
	t.Helper()
	want := new(big.Int).Mul(a, b)
	hold(t, "MulAdd", scalar.MulAdd(bytesOf(a), bytesOf(b), bytesOf(c)), want.Add(want, c), a, b, c)
}

func holdReduce(t *testing.T, a *big.Int) {
	t.Helper()
	hold(t, "Reduce", scalar.Reduce(wideOf(a)), a, a)
}

// The chapter's examples.

func TestExamples(t *testing.T) {
	l := [32]byte{237, 211, 245, 92, 26, 99, 18, 88, 214, 156, 247, 162, 222, 249, 222, 20, 31: 16}
	less := l
	less[0]--
	if l != bytesOf(order()) {
		t.Fatal("L of the tests")
	}
	if scalar.Canonical(l) || !scalar.Canonical(less) {
		t.Error("Canonical of L and L - 1")
	}
	if scalar.Add(l, small(5)) != small(5) {
		t.Error("Add(L, 5)")
	}
	if scalar.Neg(small(0)) != small(0) || scalar.Neg(small(1)) != less || scalar.Neg(less) != small(1) {
		t.Error("Neg of 0, 1 and L - 1")
	}
	if scalar.MulAdd(less, less, small(0)) != small(1) || scalar.MulAdd(small(3), small(4), small(5)) != small(17) {
		t.Error("MulAdd")
	}
	var wide [64]byte
	copy(wide[32:], l[:])
	if scalar.Reduce(wide) != small(0) {
		t.Error("Reduce of L in the higher 32 bytes")
	}
	wide[0] = 9
	if scalar.Reduce(wide) != small(9) {
		t.Error("Reduce of L in the higher 32 bytes, and 9")
	}
}

// P3.1: Canonical.

func TestCanonical(t *testing.T) {
	for _, n := range append(edges(), drawn(20000, 1)...) {
		if got := scalar.Canonical(bytesOf(n)); got != (n.Cmp(order()) < 0) {
			t.Errorf("Canonical(%x): %v", n, got)
		}
	}
}

// Every single byte of L one more or one less: each of them tells.
func TestCanonicalByEachByte(t *testing.T) {
	l := bytesOf(order())
	for i := range l {
		more, less := l, l
		if more[i]++; more[i] != 0 && scalar.Canonical(more) {
			t.Errorf("byte %d of L one more", i)
		}
		if less[i]--; less[i] != 255 && !scalar.Canonical(less) {
			t.Errorf("byte %d of L one less", i)
		}
	}
}

// P3.1: Add, Neg.

func TestAdd(t *testing.T) {
	all := append(edges(), drawn(60, 2)...)
	for _, a := range all {
		for _, b := range all {
			holdAdd(t, a, b)
		}
	}
	all = drawn(20000, 3)
	for i := 0; i+1 < len(all); i += 2 {
		holdAdd(t, all[i], all[i+1])
	}
}

func TestNeg(t *testing.T) {
	for _, a := range append(edges(), drawn(20000, 4)...) {
		holdNeg(t, a)
		if x := bytesOf(a); scalar.Add(x, scalar.Neg(x)) != small(0) {
			t.Fatalf("%x less itself", a)
		}
	}
}

// Nought has one canonical form, whichever multiple of L it comes in as.
func TestNegOfNought(t *testing.T) {
	for k := int64(0); k <= 15; k++ {
		if got := scalar.Neg(bytesOf(times(k, 0))); got != small(0) {
			t.Errorf("Neg(%d L): %x", k, got)
		}
	}
}

// P3.1: MulAdd.

func TestMulAddOfEdges(t *testing.T) {
	all := append(edges(), drawn(20, 5)...)
	for i, a := range all {
		for j, b := range all {
			holdMulAdd(t, a, b, all[(i+j)%len(all)])
		}
	}
}

// Each with each: 0, 1, multiples of L and what lies about them, and the greatest of 32 bytes.
func TestMulAddOfAllTriples(t *testing.T) {
	all := []*big.Int{
		big.NewInt(0), big.NewInt(1), times(1, -1), times(1, 0), times(1, 1), times(2, -1), times(2, 0), times(15, 0),
		power2(252, 0), power2(255, -1), power2(256, -1),
	}
	for _, a := range all {
		for _, b := range all {
			for _, c := range all {
				holdMulAdd(t, a, b, c)
			}
		}
	}
}

func TestMulAddOfDrawn(t *testing.T) {
	all := drawn(60000, 6)
	for i := 0; i+2 < len(all); i += 3 {
		holdMulAdd(t, all[i], all[i+1], all[i+2])
	}
}

// Each word of one number times each word of another stands at its own place.
func TestMulAddOfSingleBits(t *testing.T) {
	top := power2(256, -1)
	for i := uint(0); i < 256; i += 5 {
		for j := uint(0); j < 256; j += 7 {
			holdMulAdd(t, power2(i, 0), power2(j, 0), new(big.Int))
			holdMulAdd(t, power2(i, 0), power2(j, 0), top)
		}
	}
}

// P3.1: Reduce.

func TestReduceOfEdges(t *testing.T) {
	l := order()
	for _, n := range []*big.Int{
		new(big.Int), times(1, -1), l, times(1, 1), new(big.Int).Mul(l, l), new(big.Int).Lsh(l, 256), power2(512, -1),
		power2(256, -1), power2(256, 0), new(big.Int).Lsh(power2(256, -1), 256),
	} {
		holdReduce(t, n)
	}
}

// The rest changes most about a multiple of L that is shifted: just below it the rest is L - 1, at it 0.
func TestReduceAboutMultiples(t *testing.T) {
	l := order()
	for shift := uint(0); shift <= 259; shift++ {
		for _, k := range []int64{1, 2, 3, 5, 15, 16} {
			at := new(big.Int).Lsh(times(k, 0), shift)
			for d := int64(-2); d <= 2; d++ {
				n := new(big.Int).Add(at, big.NewInt(d))
				if n.BitLen() <= 512 {
					holdReduce(t, n)
				}
			}
			if n := new(big.Int).Sub(at, l); n.BitLen() <= 512 {
				holdReduce(t, n)
			}
		}
	}
	last := new(big.Int).Div(power2(512, -1), l)
	for d := int64(0); d < 100; d++ {
		n := new(big.Int).Mul(l, new(big.Int).Sub(last, big.NewInt(d)))
		holdReduce(t, n)
		holdReduce(t, n.Sub(n, big.NewInt(1)))
	}
}

func TestReduceOfPowers(t *testing.T) {
	for k := uint(0); k < 512; k++ {
		holdReduce(t, power2(k, -1))
		holdReduce(t, power2(k, 0))
		holdReduce(t, power2(k, 1))
		holdReduce(t, new(big.Int).Sub(power2(512, 0), power2(k, 0)))
	}
}

func TestReduceOfDrawn(t *testing.T) {
	for _, n := range drawnOf(64, 40000, 7) {
		holdReduce(t, n)
	}
}

// The same number, whether it comes in 32 bytes or in 64, is answered alike.
func TestFormsAgree(t *testing.T) {
	for _, n := range append(edges(), drawn(5000, 8)...) {
		want := scalar.Reduce(wideOf(n))
		if a := bytesOf(n); scalar.Add(a, small(0)) != want || scalar.MulAdd(a, small(1), small(0)) != want ||
			scalar.MulAdd(small(0), a, a) != want || scalar.Neg(scalar.Neg(a)) != want {
			t.Fatalf("%x in its forms", n)
		}
	}
}

func BenchmarkMulAdd(b *testing.B) {
	x := bytesOf(drawn(1, 9)[0])
	for range b.N {
		x = scalar.MulAdd(x, x, x)
	}
}

func BenchmarkReduce(b *testing.B) {
	x := wideOf(drawnOf(64, 1, 9)[0])
	for range b.N {
		y := scalar.Reduce(x)
		copy(x[:32], y[:])
	}
}
