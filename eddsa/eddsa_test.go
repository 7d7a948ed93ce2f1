package eddsa_test

import (
	"bytes"
	"crypto/ed25519"
	"encoding/hex"
	"math/big"
	"math/rand"
	"slices"
	"strings"
	"testing"

	"beacon/api"
	"beacon/eddsa"
	"beacon/point"
	"beacon/scalar"
	"beacon/sha2"
)

// What the chapter's words say, reckoned by layers 1, 3 and 4.

// secret is a seed's number and its prefix, bit by bit.
func secret(seed [32]byte) (number, prefix [32]byte) {
	h := sha2.Sum512(seed[:])
	n := numberOf([32]byte(h[:32]))
	for _, bit := range []int{0, 1, 2, 255} {
		n.SetBit(n, bit, 0)
	}
	n.SetBit(n, 254, 1)
	return bytesOf(n), [32]byte(h[32:])
}

// asNumber is Reduce of SHA-512 of the pieces.
func asNumber(pieces ...[]byte) [32]byte {
	return scalar.Reduce(sha2.Sum512(bytes.Join(pieces, nil)))
}

// signed is the public key and the signature.
func signed(seed [32]byte, message []byte) (public [32]byte, sig [64]byte) {
	number, prefix := secret(seed)
	public = point.Base(number)
	r := asNumber(prefix[:], message)
	first := point.Base(r)
	k := asNumber(first[:], public[:], message)
	return public, joined(first, scalar.MulAdd(k, number, r))
}

// judged is what the chapter asks of Verify.
func judged(t *testing.T, public [32]byte, message []byte, sig [64]byte) api.Errno {
	t.Helper()
	first, second := [32]byte(sig[:32]), [32]byte(sig[32:])
	if point.Check(public) != api.OK || isSmall(t, public) || numberOf(second).Cmp(order()) >= 0 {
		return api.ErrForm
	}
	k := asNumber(first[:], public[:], message)
	if point.Check(first) != api.OK || sum(t, first, product(t, k, public)) != point.Base(second) {
		return api.ErrSig
	}
	return api.OK
}

func joined(first, second [32]byte) [64]byte {
	return [64]byte(append(first[:], second[:]...))
}

func isSmall(t *testing.T, p [32]byte) bool {
	t.Helper()
	small, e := point.Small(p)
	if e != api.OK {
		t.Fatalf("Small(%x): %v", p, e)
	}
	return small
}

func sum(t *testing.T, p, q [32]byte) [32]byte {
	t.Helper()
	s, e := point.Add(p, q)
	if e != api.OK {
		t.Fatalf("Add(%x, %x): %v", p, q, e)
	}
	return s
}

func product(t *testing.T, n, p [32]byte) [32]byte {
	t.Helper()
	q, e := point.Mul(n, p)
	if e != api.OK {
		t.Fatalf("Mul(%x, %x): %v", n, p, e)
	}
	return q
}

// Numbers and bytes.

// order is L.
func order() *big.Int {
	low, _ := new(big.Int).SetString("27742317777372353535851937790883648493", 10)
	return low.Add(low, new(big.Int).Lsh(big.NewInt(1), 252))
}

// prime is 2^255 - 19.
func prime() *big.Int {
	n := new(big.Int).Lsh(big.NewInt(1), 255)
	return n.Sub(n, big.NewInt(19))
}

func more(n *big.Int, add int64) [32]byte { return bytesOf(new(big.Int).Add(n, big.NewInt(add))) }

func bytesOf(n *big.Int) [32]byte {
	var b [32]byte
	n.FillBytes(b[:])
	slices.Reverse(b[:])
	return b
}

func numberOf(b [32]byte) *big.Int {
	slices.Reverse(b[:])
	return new(big.Int).SetBytes(b[:])
}

func small(n int) [32]byte { return bytesOf(big.NewInt(int64(n))) }

func unhex(t *testing.T, s string) []byte {
	t.Helper()
	b, err := hex.DecodeString(strings.ReplaceAll(s, " ", ""))
	if err != nil {
		t.Fatal(err)
	}
	return b
}

func filled(b byte) [32]byte { return [32]byte(bytes.Repeat([]byte{b}, 32)) }

// turned are the bytes with one bit of them turned.
func turned(b []byte, bit int) []byte {
	out := slices.Clone(b)
	out[bit/8] ^= 1 << (bit % 8)
	return out
}

// What is signed.

type signing struct {
	seed    [32]byte
	message []byte
}

// lengths lie about the blocks and the padding of SHA-512, with the 32 bytes
// of the prefix or the 64 of R and the key ahead of the message, and without.
func lengths() []int {
	return []int{0, 1, 31, 32, 33, 47, 48, 63, 64, 65, 79, 80, 111, 112, 113, 127, 128, 129, 1000, 4096, 5003}
}

func seeds(r *rand.Rand) [][32]byte {
	out := [][32]byte{{}, filled(255), {1}, {31: 128}}
	for range 6 {
		out = append(out, [32]byte(drawn(r, 32)))
	}
	return out
}

func drawn(r *rand.Rand, n int) []byte {
	b := make([]byte, n)
	r.Read(b)
	return b
}

func cases() []signing {
	r := rand.New(rand.NewSource(51))
	var out []signing
	for _, n := range lengths() {
		for _, seed := range seeds(r) {
			out = append(out, signing{seed, drawn(r, n)})
		}
	}
	return out
}

// smallOnes are the eight points whose order divides 8, Zero the first.
func smallOnes(t *testing.T) [][32]byte {
	t.Helper()
	r := rand.New(rand.NewSource(52))
	for {
		p := [32]byte(drawn(r, 32))
		if point.Check(p) != api.OK {
			continue
		}
		e := product(t, bytesOf(order()), p)
		if product(t, small(4), e) == point.Zero() {
			continue
		}
		var out [][32]byte
		for i := range 8 {
			out = append(out, product(t, small(i), e))
		}
		return out
	}
}

// noPoints are keys that are no point: y from p on, an x that is none, and an
// x of 0 that is said to be odd.
func noPoints() [][32]byte {
	out := [][32]byte{small(2), filled(255), {0: 1, 31: 128}}
	odd := more(prime(), -1)
	odd[31] |= 128
	out = append(out, odd)
	for i := range int64(19) {
		b := more(prime(), i)
		out = append(out, b)
		b[31] |= 128
		out = append(out, b)
	}
	r := rand.New(rand.NewSource(53))
	for count := 0; count < 8; {
		if b := [32]byte(drawn(r, 32)); point.Check(b) != api.OK {
			out = append(out, b)
			count++
		}
	}
	return out
}

func expect(t *testing.T, what string, public [32]byte, message []byte, sig [64]byte, want api.Errno) {
	t.Helper()
	if got := eddsa.Verify(public, message, sig); got != want {
		t.Errorf("%s: Verify(%x, %d bytes, %x) = %d, not %d", what, public, len(message), sig, got, want)
	}
}

// P5.1 and P5.3: Public, Sign, and what is signed verified.

func TestKnownKeys(t *testing.T) {
	for _, c := range [][4]string{
		{"9d61b19d effd5a60 ba844af4 92ec2cc4 4449c569 7b326919 703bac03 1cae7f60",
			"d75a9801 82b10ab7 d54bfed3 c964073a 0ee172f3 daa62325 af021a68 f707511a", "",
			"e5564300 c360ac72 9086e2cc 806e828a 84877f1e b8e5d974 d873e065 22490155" +
				"5fb88215 90a33bac c61e3970 1cf9b46b d25bf5f0 595bbe24 65514143 8e7a100b"},
		{"4ccd089b28ff96da9db6c346ec114e0f5b8a319f35aba624da8cf6ed4fb8a6fb",
			"3d4017c3e843895a92b70aa74d1b7ebc9c982ccf2ec4968cc0cd55f12af4660c", "72",
			"92a009a9f0d4cab8720e820b5f642540a2b27b5416503f8fb3762223ebdb69da" +
				"085ac1e43e15996e458f3613d0f11d8c387b2eaeb4302aeeb00d291612bb0c00"},
		{"c5aa8df43f9f837bedb7442f31dcb7b166d38535076f094b85ce3a2e0b4458f7",
			"fc51cd8e6218a1a38da47ed00230f0580816ed13ba3303ac5deb911548908025", "af82",
			"6291d657deec24024827e69c3abe01a30ce548a284743a445e3680d7db5ac3ac" +
				"18ff9b538d16f290ae67f760984dc6594a7c15e9716ed28dc027beceea1ec40a"},
		// The message is SHA-512 of "abc".
		{"833fe62409237b9d62ec77587520911e9a759cec1d19755b7da901b96dca3d42",
			"ec172b93ad5e563bf4932c70e1245034c35467ef2efd4d64ebf819683467e2bf",
			"ddaf35a193617abacc417349ae20413112e6fa4e89a97ea20a9eeee64b55d39a" +
				"2192992a274fc1a836ba3c23a3feebbd454d4423643ce80e2a9ac94fa54ca49f",
			"dc2a4459e7369633a52b1bf277839a00201009a3efbf3ecb69bea2186c26b589" +
				"09351fc9ac90b3ecfdfbc7c66431e0303dca179c138ac17ad9bef1177331a704"},
	} {
		seed, public := [32]byte(unhex(t, c[0])), [32]byte(unhex(t, c[1]))
		message, sig := unhex(t, c[2]), [64]byte(unhex(t, c[3]))
		if got := eddsa.Public(seed); got != public {
			t.Errorf("Public(%x) = %x", seed, got)
		}
		if got := eddsa.Sign(seed, message); got != sig {
			t.Errorf("Sign(%x, %x) = %x", seed, message, got)
		}
		expect(t, "a known signature", public, message, sig, api.OK)
	}
}

func TestSignAsTheChapterSays(t *testing.T) {
	for _, c := range cases() {
		public, sig := signed(c.seed, c.message)
		if got := eddsa.Public(c.seed); got != public {
			t.Errorf("Public(%x) = %x, not %x", c.seed, got, public)
		}
		if got := eddsa.Sign(c.seed, c.message); got != sig {
			t.Errorf("Sign(%x, %d bytes) = %x, not %x", c.seed, len(c.message), got, sig)
		}
		expect(t, "what was signed", public, c.message, sig, api.OK)
	}
}

// The library's own signatures stand apart from layers 1 to 4.
func TestSignAsTheLibraryDoes(t *testing.T) {
	for _, c := range cases() {
		key := ed25519.NewKeyFromSeed(c.seed[:])
		public := [32]byte(key.Public().(ed25519.PublicKey))
		sig := [64]byte(ed25519.Sign(key, c.message))
		if eddsa.Public(c.seed) != public || eddsa.Sign(c.seed, c.message) != sig {
			t.Errorf("the seed %x and %d bytes: not as the library signs", c.seed, len(c.message))
		}
		expect(t, "signed by the library", public, c.message, sig, api.OK)
	}
}

func TestNilAndEmptyMessage(t *testing.T) {
	seed := filled(7)
	public, sig := eddsa.Public(seed), eddsa.Sign(seed, nil)
	if eddsa.Sign(seed, []byte{}) != sig || eddsa.Sign(seed, make([]byte, 0, 9)) != sig {
		t.Error("no message, and a message of no bytes, have two signatures")
	}
	for _, message := range [][]byte{nil, {}, make([]byte, 0, 9)} {
		expect(t, "a message of no bytes", public, message, sig, api.OK)
	}
	expect(t, "a nought byte", public, []byte{0}, sig, api.ErrSig)
}

// P5.2: what is refused.

// holdTurned asks Verify with one bit turned in each part, every step-th of them.
func holdTurned(t *testing.T, c signing, step int) {
	t.Helper()
	public, sig := eddsa.Public(c.seed), eddsa.Sign(c.seed, c.message)
	// A place of its own to begin with for each case, so that all bits have their turn.
	begin := int(sig[0]) % step
	for bit := begin; bit < 256; bit += step {
		key, want := [32]byte(turned(public[:], bit)), api.ErrForm
		if point.Check(key) == api.OK {
			want = api.ErrSig
		}
		expect(t, "a bit of the key", key, c.message, sig, want)
	}
	for bit := begin; bit < 512; bit += step {
		other, want := [64]byte(turned(sig[:], bit)), api.ErrSig
		if numberOf([32]byte(other[32:])).Cmp(order()) >= 0 {
			want = api.ErrForm
		}
		expect(t, "a bit of the signature", public, c.message, other, want)
	}
	for bit := begin; bit < 8*len(c.message) && bit < 4096; bit += step {
		expect(t, "a bit of the message", public, turned(c.message, bit), sig, api.ErrSig)
	}
	if n := len(c.message); n > 0 {
		expect(t, "the last bit of the message", public, turned(c.message, 8*n-1), sig, api.ErrSig)
		expect(t, "a byte less", public, c.message[:n-1], sig, api.ErrSig)
		expect(t, "a byte less ahead", public, c.message[1:], sig, api.ErrSig)
	}
	expect(t, "a byte more", public, append(slices.Clone(c.message), 0), sig, api.ErrSig)
	expect(t, "another's key", eddsa.Public(filled(99)), c.message, sig, api.ErrSig)
}

func TestOneBitTurned(t *testing.T) {
	r := rand.New(rand.NewSource(54))
	for _, n := range []int{0, 1, 33, 129} {
		holdTurned(t, signing{[32]byte(drawn(r, 32)), drawn(r, n)}, 1)
	}
	for _, c := range cases() {
		holdTurned(t, c, 97)
	}
}

func TestKeyIsNoPoint(t *testing.T) {
	seed, message := filled(3), []byte("no point")
	sig := eddsa.Sign(seed, message)
	for _, key := range noPoints() {
		expect(t, "no point", key, message, sig, api.ErrForm)
		expect(t, "no point, no signature", key, message, [64]byte{}, api.ErrForm)
		expect(t, "no point, S beyond", key, message, joined(filled(1), filled(255)), api.ErrForm)
	}
}

// With a small key the sum can be R, whatever was signed: it is refused then too.
func TestKeyIsSmall(t *testing.T) {
	_, sig := signed(filled(3), nil)
	for i, key := range smallOnes(t) {
		expect(t, "a small key", key, nil, sig, api.ErrForm)
		expect(t, "a small key, S beyond", key, nil, joined(point.Zero(), filled(255)), api.ErrForm)
		expect(t, "a small key, R no point", key, nil, joined(small(2), small(1)), api.ErrForm)
		second := small(17 + i)
		first := point.Base(second)
		fits := 0
		for n := range 64 {
			message := []byte{byte(n)}
			if product(t, asNumber(first[:], key[:], message), key) == point.Zero() {
				fits++
			}
			expect(t, "a small key, and the sum is R", key, message, joined(first, second), api.ErrForm)
		}
		if fits == 0 {
			t.Errorf("%x: no message at which the sum is R", key)
		}
		expect(t, "a small key, and noughts", key, nil, joined(point.Zero(), [32]byte{}), api.ErrForm)
	}
}

func TestSecondHalf(t *testing.T) {
	for _, c := range cases()[:40] {
		public, sig := eddsa.Public(c.seed), eddsa.Sign(c.seed, c.message)
		first, second := [32]byte(sig[:32]), [32]byte(sig[32:])
		for _, s := range []struct {
			what string
			half [32]byte
			want api.Errno
		}{
			{"0", [32]byte{}, api.ErrSig},
			{"L - 1", more(order(), -1), api.ErrSig},
			{"L", more(order(), 0), api.ErrForm},
			{"L + 1", more(order(), 1), api.ErrForm},
			{"S and L", bytesOf(new(big.Int).Add(numberOf(second), order())), api.ErrForm},
			{"S and 8 L", bytesOf(new(big.Int).Add(numberOf(second), new(big.Int).Mul(order(), big.NewInt(8)))), api.ErrForm},
			{"less S", scalar.Neg(second), api.ErrSig},
			{"255s", filled(255), api.ErrForm},
		} {
			expect(t, s.what, public, c.message, joined(first, s.half), s.want)
			expect(t, s.what+", R no point", public, c.message, joined(small(2), s.half), s.want)
		}
	}
}

// otherFirsts are rows of bytes that are no point, or that some would read as Zero.
func otherFirsts() [][32]byte {
	return append(noPoints(), [32]byte{}, filled(1), point.Generator())
}

func TestFirstHalf(t *testing.T) {
	for _, c := range cases()[:4] {
		public, sig := eddsa.Public(c.seed), eddsa.Sign(c.seed, c.message)
		second := [32]byte(sig[32:])
		for _, first := range otherFirsts() {
			expect(t, "another R", public, c.message, joined(first, second), api.ErrSig)
		}
	}
}

// For any R at all, S = k * s makes the sum Zero: then R must be the bytes of
// Zero, and not another row of bytes with the same y modulo p.
func TestFirstHalfOfZero(t *testing.T) {
	number, _ := secret(filled(9))
	public, message := point.Base(number), []byte("r is nought")
	made := func(first [32]byte) [64]byte {
		k := asNumber(first[:], public[:], message)
		return joined(first, scalar.MulAdd(k, number, [32]byte{}))
	}
	expect(t, "R is Zero", public, message, made(point.Zero()), api.OK)
	for _, first := range otherFirsts() {
		expect(t, "the sum is Zero, and R isn't", public, message, made(first), api.ErrSig)
	}
}

// A key that is the sum of a true one and a small one is neither small nor of
// the order L: the sum is asked for as it stands, not taken 8 times.
func TestKeyOfMixedOrder(t *testing.T) {
	number, prefix := secret(filled(11))
	answers := map[api.Errno]int{}
	for i, s := range smallOnes(t)[1:] {
		public := sum(t, point.Base(number), s)
		for n := range 24 {
			message := []byte{byte(i), byte(n)}
			r := asNumber(prefix[:], message)
			for turn := range 2 {
				first := point.Base(r)
				if turn == 1 {
					first = sum(t, first, s)
				}
				sig := joined(first, scalar.MulAdd(asNumber(first[:], public[:], message), number, r))
				want := judged(t, public, message, sig)
				answers[want]++
				expect(t, "a key of mixed order", public, message, sig, want)
			}
		}
	}
	if answers[api.OK] == 0 || answers[api.ErrSig] == 0 || answers[api.ErrForm] != 0 {
		t.Errorf("the signatures made have the answers %v", answers)
	}
}

// The rules: nothing panics, and what is handed in stays as it is.

func TestAnyBytes(t *testing.T) {
	r := rand.New(rand.NewSource(55))
	for range 1000 {
		public, sig, message := [32]byte(drawn(r, 32)), [64]byte(drawn(r, 64)), drawn(r, r.Intn(200))
		if r.Intn(2) == 0 {
			sig[63] &= 0x0f
		}
		expect(t, "drawn bytes", public, message, sig, judged(t, public, message, sig))
	}
	for _, b := range []byte{0, 1, 127, 128, 255} {
		sig := joined(filled(b), filled(b))
		expect(t, "one byte throughout", filled(b), nil, sig, judged(t, filled(b), nil, sig))
	}
}

func TestMessageStays(t *testing.T) {
	r := rand.New(rand.NewSource(56))
	for _, n := range lengths() {
		seed, whole := [32]byte(drawn(r, 32)), drawn(r, n+300)
		was := slices.Clone(whole)
		for _, message := range [][]byte{whole[:n], whole[:n:n], whole[7 : n+7]} {
			sig := eddsa.Sign(seed, message)
			if sig != eddsa.Sign(seed, slices.Clone(message)) {
				t.Errorf("%d bytes: the signature hangs on the room", n)
			}
			expect(t, "a message with room", eddsa.Public(seed), message, sig, api.OK)
			expect(t, "a message with room", eddsa.Public(seed), message, [64]byte{}, api.ErrSig)
			expect(t, "a message with room", small(2), message, sig, api.ErrForm)
			if !bytes.Equal(whole, was) {
				t.Fatalf("%d bytes: the message or its room was changed", n)
			}
		}
	}
}

func TestMessageIsNotKept(t *testing.T) {
	seed, message := filled(21), []byte("as it was")
	first := eddsa.Sign(seed, message)
	was := slices.Clone(message)
	copy(message, "otherwise")
	if eddsa.Sign(seed, message) == first || eddsa.Sign(seed, was) != first {
		t.Error("a signature isn't that of the message as it is at the call")
	}
	expect(t, "the message as it was", eddsa.Public(seed), was, first, api.OK)
	expect(t, "the message as it is", eddsa.Public(seed), message, first, api.ErrSig)
}
