package field_test

import (
	"math/big"
	"math/rand"
	"testing"

	"beacon/api"
	"beacon/field"
)

// power2 is 2^k + add.
func power2(k uint, add int64) *big.Int {
	n := new(big.Int).Lsh(big.NewInt(1), k)
	return n.Add(n, big.NewInt(add))
}

func prime() *big.Int { return power2(255, -19) }

// bytesOf is a number below 2^256 as 32 bytes, little-endian, as it is.
func bytesOf(n *big.Int) [32]byte {
	var b [32]byte
	n.FillBytes(b[:])
	for i := range 16 {
		b[i], b[31-i] = b[31-i], b[i]
	}
	return b
}

// numberOf is the number that 32 bytes are, below 2^256.
func numberOf(b [32]byte) *big.Int {
	for i := range 16 {
		b[i], b[31-i] = b[31-i], b[i]
	}
	return new(big.Int).SetBytes(b[:])
}

// small is the number n, if n isn't negative, and else p less what it is short of 0.
func small(n int64) [32]byte {
	return bytesOf(new(big.Int).Mod(big.NewInt(n), prime()))
}

// edges are the numbers about each place where a carry, a borrow or a multiple of p lies.
func edges() []*big.Int {
	p := prime()
	var out []*big.Int
	near := func(n *big.Int) {
		for d := int64(-40); d <= 40; d++ {
			m := new(big.Int).Add(n, big.NewInt(d))
			if m.Sign() >= 0 && m.BitLen() <= 256 && (d >= -2 && d <= 2 || d%19 == 0) {
				out = append(out, m)
			}
		}
	}
	near(new(big.Int))
	near(p)
	near(new(big.Int).Lsh(p, 1))
	near(new(big.Int).Rsh(p, 1))
	for _, k := range []uint{63, 64, 128, 192, 254, 255, 256} {
		near(power2(k, 0))
	}
	return out
}

// drawn are numbers of all lengths, drawn the same way each time; some have long rows of equal bits.
func drawn(count int) []*big.Int {
	r := rand.New(rand.NewSource(2))
	var out []*big.Int
	for i := range count {
		var b [32]byte
		r.Read(b[:])
		n := numberOf(b)
		switch i % 4 {
		case 1:
			n.Rsh(n, uint(r.Intn(256)))
		case 2:
			n = new(big.Int).Xor(power2(256, -1), n.Rsh(n, uint(r.Intn(256))))
		}
		out = append(out, n)
	}
	return out
}

// hold asks that got is the one canonical form of want modulo p.
func hold(t *testing.T, what string, got [32]byte, want *big.Int, of ...*big.Int) {
	t.Helper()
	want = new(big.Int).Mod(want, prime())
	if got != bytesOf(want) {
		t.Fatalf("%s of %x: %x, want %x", what, of, numberOf(got), want)
	}
	if !field.Canonical(got) {
		t.Fatalf("%s of %x: %x isn't canonical", what, of, numberOf(got))
	}
}

func holdPair(t *testing.T, a, b *big.Int) {
	t.Helper()
	x, y := bytesOf(a), bytesOf(b)
	hold(t, "Add", field.Add(x, y), new(big.Int).Add(a, b), a, b)
	hold(t, "Sub", field.Sub(x, y), new(big.Int).Sub(a, b), a, b)
	hold(t, "Mul", field.Mul(x, y), new(big.Int).Mul(a, b), a, b)
}

// The chapter's examples.

func TestExamples(t *testing.T) {
	p, less := bytesOf(prime()), small(-1)
	if less[0] != 236 || less[1] != 255 || less[30] != 255 || less[31] != 127 {
		t.Fatal("p - 1 of the tests")
	}
	var all [32]byte
	for i := range all {
		all[i] = 255
	}
	if field.Sub(small(0), small(1)) != less {
		t.Error("Sub(0, 1)")
	}
	if field.Canonical(p) || field.Add(p, small(0)) != small(0) {
		t.Error("p")
	}
	if field.Add(all, small(0)) != small(37) {
		t.Error("32 bytes 255")
	}
	if field.Mul(small(2), field.Inv(small(2))) != small(1) || field.Inv(small(0)) != small(0) {
		t.Error("Inv")
	}
	if r, e := field.Sqrt(small(4)); r != small(2) || e != api.OK {
		t.Error("Sqrt(4)", r, e)
	}
	if r, e := field.Sqrt(small(9)); r != small(-3) || e != api.OK {
		t.Error("Sqrt(9)", r, e)
	}
	if r, e := field.Sqrt(small(2)); r != small(0) || e != api.ErrNone {
		t.Error("Sqrt(2)", r, e)
	}
	if r, e := field.Sqrt(less); field.Mul(r, r) != less || e != api.OK {
		t.Error("Sqrt(p - 1)", r, e)
	}
}

// P2.1: Canonical, Add, Sub, Mul.

func TestCanonical(t *testing.T) {
	for _, n := range append(edges(), drawn(4000)...) {
		if got := field.Canonical(bytesOf(n)); got != (n.Cmp(prime()) < 0) {
			t.Errorf("Canonical(%x): %v", n, got)
		}
	}
}

func TestPairsOfEdges(t *testing.T) {
	all := append(edges(), drawn(60)...)
	for _, a := range all {
		for _, b := range all {
			holdPair(t, a, b)
		}
	}
}

func TestDrawnPairs(t *testing.T) {
	all := drawn(20000)
	for i := 0; i < len(all); i += 2 {
		holdPair(t, all[i], all[i+1])
	}
}

// The product of a and 2^256 - 1, its upper half brought down, lies just below a multiple of 2^256 if a is just
// below one of a 37th part of it: there the last of the carries is due.
func TestProductsThatCarryTwice(t *testing.T) {
	top := power2(256, -1)
	for j := int64(1); j <= 37; j++ {
		a := new(big.Int).Mul(power2(256, 0), big.NewInt(j))
		a.Div(a, big.NewInt(37))
		for d := int64(-60); d <= 60; d++ {
			n := new(big.Int).Add(a, big.NewInt(d))
			if n.BitLen() <= 256 {
				holdPair(t, n, top)
				holdPair(t, top, n)
			}
		}
	}
}

// P2.2: Inv.

func TestInv(t *testing.T) {
	p := prime()
	for _, n := range append(edges(), drawn(2000)...) {
		want := new(big.Int)
		if m := new(big.Int).Mod(n, p); m.Sign() != 0 {
			want.ModInverse(m, p)
		}
		got := field.Inv(bytesOf(n))
		hold(t, "Inv", got, want, n)
		if want.Sign() != 0 && field.Mul(bytesOf(n), got) != small(1) {
			t.Fatalf("Inv(%x) times it isn't 1", n)
		}
	}
}

func TestInvOfNought(t *testing.T) {
	for _, n := range []*big.Int{new(big.Int), prime(), new(big.Int).Lsh(prime(), 1)} {
		if got := field.Inv(bytesOf(n)); got != [32]byte{} {
			t.Errorf("Inv(%x): %x", n, got)
		}
	}
	if field.Inv(small(1)) != small(1) || field.Inv(small(-1)) != small(-1) {
		t.Error("Inv of 1 and p - 1")
	}
}

// P2.2: Sqrt.

// evenRoot is the even root of n modulo p, or nil.
func evenRoot(n *big.Int) *big.Int {
	p := prime()
	m := new(big.Int).Mod(n, p)
	if m.Sign() == 0 {
		return m
	}
	root := new(big.Int).ModSqrt(m, p)
	if root == nil || root.Bit(0) == 0 {
		return root
	}
	return root.Sub(p, root)
}

func holdRoot(t *testing.T, n *big.Int) bool {
	t.Helper()
	want := evenRoot(n)
	got, e := field.Sqrt(bytesOf(n))
	if want == nil {
		if got != [32]byte{} || e != api.ErrNone {
			t.Fatalf("Sqrt(%x): %x, %v; it has no root", n, got, e)
		}
		return false
	}
	if e != api.OK || got[0]&1 != 0 {
		t.Fatalf("Sqrt(%x): %x, %v", n, got, e)
	}
	hold(t, "Sqrt", got, want, n)
	if field.Mul(got, got) != field.Add(bytesOf(n), [32]byte{}) {
		t.Fatalf("Sqrt(%x) squared isn't it", n)
	}
	return true
}

func TestSqrt(t *testing.T) {
	with, without := 0, 0
	for _, n := range append(edges(), drawn(3000)...) {
		if holdRoot(t, n) {
			with++
		} else {
			without++
		}
	}
	if with < 1000 || without < 1000 {
		t.Errorf("%d with a root, %d without", with, without)
	}
}

func TestSqrtOfSquares(t *testing.T) {
	p := prime()
	for _, n := range append(edges(), drawn(1000)...) {
		square := new(big.Int).Mul(n, n)
		square.Mod(square, p)
		if !holdRoot(t, square) {
			t.Fatalf("the square of %x", n)
		}
		// A number and its negative are both squares, since -1 is one; twice a square isn't.
		if holdRoot(t, new(big.Int).Sub(p, square)); square.Sign() != 0 && holdRoot(t, square.Lsh(square, 1)) {
			t.Fatalf("twice the square of %x", n)
		}
	}
}

// The same number in each form of 32 bytes has the same root: n, n + p and n + 2p, where these are below 2^256.
func TestSqrtOfAllForms(t *testing.T) {
	p := prime()
	for k := int64(0); k < 60; k++ {
		want, wantErr := field.Sqrt(small(k))
		n := big.NewInt(k)
		for n.BitLen() <= 256 {
			if got, e := field.Sqrt(bytesOf(n)); got != want || e != wantErr {
				t.Errorf("Sqrt(%x): %x, %v", n, got, e)
			}
			n = new(big.Int).Add(n, p)
		}
	}
	for _, n := range []*big.Int{new(big.Int), p, new(big.Int).Lsh(p, 1)} {
		if got, e := field.Sqrt(bytesOf(n)); got != [32]byte{} || e != api.OK {
			t.Errorf("Sqrt of nought as %x: %x, %v", n, got, e)
		}
	}
}

func TestLaws(t *testing.T) {
	all := drawn(3000)
	for i := 0; i+2 < len(all); i += 3 {
		a, b, c := bytesOf(all[i]), bytesOf(all[i+1]), bytesOf(all[i+2])
		if field.Mul(a, b) != field.Mul(b, a) || field.Add(a, b) != field.Add(b, a) {
			t.Fatalf("%x and %x change places", a, b)
		}
		if field.Mul(field.Add(a, b), c) != field.Add(field.Mul(a, c), field.Mul(b, c)) {
			t.Fatalf("(%x + %x) %x", a, b, c)
		}
		if field.Add(field.Sub(a, b), b) != field.Add(a, [32]byte{}) {
			t.Fatalf("%x - %x + it", a, b)
		}
	}
}

func BenchmarkMul(b *testing.B) {
	x := bytesOf(drawn(1)[0])
	for range b.N {
		x = field.Mul(x, x)
	}
}

func BenchmarkInv(b *testing.B) {
	x := bytesOf(drawn(1)[0])
	for range b.N {
		x = field.Inv(x)
	}
}
