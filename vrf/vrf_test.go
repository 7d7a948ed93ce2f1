package vrf_test

import (
	"bytes"
	"crypto/sha512"
	"encoding/hex"
	"math/big"
	"math/rand"
	"slices"
	"strings"
	"testing"

	"beacon/api"
	"beacon/eddsa"
	"beacon/point"
	"beacon/scalar"
	"beacon/sha2"
	"beacon/vrf"
)

// What the chapter's words say, reckoned by layers 1, 3, 4 and 5.

// secret is a seed's number and its prefix, bit by bit.
func secret(seed [32]byte) (number, prefix [32]byte) {
	h := sha2.Sum512(seed[:])
	n := numberOf(h[:32])
	for _, bit := range []int{0, 1, 2, 255} {
		n.SetBit(n, bit, 0)
	}
	n.SetBit(n, 254, 1)
	return bytesOf(n), [32]byte(h[32:])
}

// hashed is SHA-512 of the pieces.
func hashed(pieces ...[]byte) [64]byte { return sha2.Sum512(bytes.Join(pieces, nil)) }

// tried is the point of an input under a key, and the c at which it is found.
func tried(t *testing.T, key [32]byte, alpha []byte) (input [32]byte, c int) {
	t.Helper()
	for c := 0; c <= 255; c++ {
		h := hashed([]byte{3, 1}, key[:], alpha, []byte{byte(c), 0})
		p := [32]byte(h[:32])
		if point.Check(p) != api.OK {
			continue
		}
		if e := product(t, small(8), p); e != point.Zero() {
			return e, c
		}
	}
	t.Fatalf("%x: no point of the input %x", key, alpha)
	return input, 0
}

// asked is the challenge of five points.
func asked(points ...[32]byte) [16]byte {
	text := []byte{3, 2}
	for _, p := range points {
		text = append(text, p[:]...)
	}
	h := hashed(text, []byte{0})
	return [16]byte(h[:16])
}

// told is the output of a proof with this G.
func told(t *testing.T, gamma [32]byte) [64]byte {
	t.Helper()
	cleared := product(t, small(8), gamma)
	return hashed([]byte{3, 3}, cleared[:], []byte{0})
}

// second is k + c * s modulo L.
func second(k [32]byte, c [16]byte, s [32]byte) [32]byte {
	n := new(big.Int).Mul(numberOf(c[:]), numberOf(s[:]))
	n.Add(n, numberOf(k[:]))
	return bytesOf(n.Mod(n, order()))
}

// proved is the proof of an input by a seed, and the c at which the point of
// the input is found.
func proved(t *testing.T, seed [32]byte, alpha []byte) (proof [80]byte, at int) {
	t.Helper()
	number, prefix := secret(seed)
	key := eddsa.Public(seed)
	input, at := tried(t, key, alpha)
	gamma := product(t, number, input)
	k := scalar.Reduce(hashed(prefix[:], input[:]))
	c := asked(key, input, gamma, point.Base(k), product(t, k, input))
	return joined(gamma, c, second(k, c, number)), at
}

// judged is what the chapter asks of Verify.
func judged(t *testing.T, key [32]byte, alpha []byte, proof [80]byte) ([64]byte, api.Errno) {
	t.Helper()
	gamma, c, last := split(proof)
	if point.Check(key) != api.OK || product(t, small(8), key) == point.Zero() ||
		point.Check(gamma) != api.OK || numberOf(last[:]).Cmp(order()) >= 0 {
		return [64]byte{}, api.ErrForm
	}
	input, _ := tried(t, key, alpha)
	n := bytesOf(numberOf(c[:]))
	u := sum(t, point.Base(last), product(t, n, opposite(t, key)))
	v := sum(t, product(t, last, input), product(t, n, opposite(t, gamma)))
	if asked(key, input, gamma, u, v) != c {
		return [64]byte{}, api.ErrSig
	}
	return told(t, gamma), api.OK
}

func joined(gamma [32]byte, c [16]byte, last [32]byte) [80]byte {
	return [80]byte(slices.Concat(gamma[:], c[:], last[:]))
}

func split(proof [80]byte) (gamma [32]byte, c [16]byte, last [32]byte) {
	copy(gamma[:], proof[:32])
	copy(c[:], proof[32:48])
	copy(last[:], proof[48:80])
	return gamma, c, last
}

func sum(t *testing.T, p, q [32]byte) [32]byte {
	t.Helper()
	s, e := point.Add(p, q)
	if e != api.OK {
		t.Fatalf("Add(%x, %x): %v", p, q, e)
	}
	return s
}

func opposite(t *testing.T, p [32]byte) [32]byte {
	t.Helper()
	q, e := point.Neg(p)
	if e != api.OK {
		t.Fatalf("Neg(%x): %v", p, e)
	}
	return q
}

func product(t *testing.T, n, p [32]byte) [32]byte {
	t.Helper()
	q, e := point.Mul(n, p)
	if e != api.OK {
		t.Fatalf("Mul(%x, %x): %v", n, p, e)
	}
	return q
}

// Numbers and bytes.

// order is L.
func order() *big.Int {
	low, _ := new(big.Int).SetString("27742317777372353535851937790883648493", 10)
	return low.Add(low, new(big.Int).Lsh(big.NewInt(1), 252))
}

// prime is 2^255 - 19.
func prime() *big.Int {
	n := new(big.Int).Lsh(big.NewInt(1), 255)
	return n.Sub(n, big.NewInt(19))
}

func more(n *big.Int, add int64) [32]byte { return bytesOf(new(big.Int).Add(n, big.NewInt(add))) }

func bytesOf(n *big.Int) [32]byte {
	var b [32]byte
	n.FillBytes(b[:])
	slices.Reverse(b[:])
	return b
}

// numberOf is the number of some bytes, little-endian.
func numberOf(b []byte) *big.Int {
	turned := slices.Clone(b)
	slices.Reverse(turned)
	return new(big.Int).SetBytes(turned)
}

func small(n int) [32]byte { return bytesOf(big.NewInt(int64(n))) }

func unhex(t *testing.T, s string) []byte {
	t.Helper()
	b, err := hex.DecodeString(strings.ReplaceAll(s, " ", ""))
	if err != nil {
		t.Fatal(err)
	}
	return b
}

func filled(b byte) [32]byte { return [32]byte(bytes.Repeat([]byte{b}, 32)) }

// turned are the bytes with one bit of them turned.
func turned(b []byte, bit int) []byte {
	out := slices.Clone(b)
	out[bit/8] ^= 1 << (bit % 8)
	return out
}

func drawn(r *rand.Rand, n int) []byte {
	b := make([]byte, n)
	r.Read(b)
	return b
}

// What is proved.

type proving struct {
	seed  [32]byte
	alpha []byte
}

// lengths lie about the blocks and the padding of SHA-512, with the 36 bytes
// about the input and without.
func lengths() []int {
	return []int{0, 1, 31, 32, 33, 63, 64, 65, 75, 76, 77, 91, 92, 93, 111, 112, 113, 127, 128, 129, 1000, 4096, 5003}
}

func seeds(r *rand.Rand) [][32]byte {
	out := [][32]byte{{}, filled(255), {1}, {31: 128}}
	for range 6 {
		out = append(out, [32]byte(drawn(r, 32)))
	}
	return out
}

func cases() []proving {
	r := rand.New(rand.NewSource(61))
	var out []proving
	for _, n := range lengths() {
		for _, seed := range seeds(r) {
			out = append(out, proving{seed, drawn(r, n)})
		}
	}
	return out
}

// smallOnes are the eight points whose order divides 8, Zero the first.
func smallOnes(t *testing.T) [][32]byte {
	t.Helper()
	r := rand.New(rand.NewSource(62))
	for {
		p := [32]byte(drawn(r, 32))
		if point.Check(p) != api.OK {
			continue
		}
		e := product(t, bytesOf(order()), p)
		if product(t, small(4), e) == point.Zero() {
			continue
		}
		var out [][32]byte
		for i := range 8 {
			out = append(out, product(t, small(i), e))
		}
		return out
	}
}

// noPoints are rows of bytes that are no point: y from p on, an x that is
// none, and an x of 0 that is said to be odd.
func noPoints() [][32]byte {
	out := [][32]byte{small(2), filled(255), {0: 1, 31: 128}}
	odd := more(prime(), -1)
	odd[31] |= 128
	out = append(out, odd)
	for i := range int64(19) {
		b := more(prime(), i)
		out = append(out, b)
		b[31] |= 128
		out = append(out, b)
	}
	r := rand.New(rand.NewSource(63))
	for count := 0; count < 8; {
		if b := [32]byte(drawn(r, 32)); point.Check(b) != api.OK {
			out = append(out, b)
			count++
		}
	}
	return out
}

// Prove, Output and Verify, held.

func expectProof(t *testing.T, c proving, want [80]byte) {
	t.Helper()
	if got, e := vrf.Prove(c.seed, c.alpha); got != want || e != api.OK {
		t.Errorf("Prove(%x, %d bytes) = %x, %d, not %x", c.seed, len(c.alpha), got, e, want)
	}
}

func expectOutput(t *testing.T, what string, proof [80]byte, want [64]byte, wantErr api.Errno) {
	t.Helper()
	if got, e := vrf.Output(proof); got != want || e != wantErr {
		t.Errorf("%s: Output(%x) = %x, %d, not %x, %d", what, proof, got, e, want, wantErr)
	}
}

func expect(t *testing.T, what string, key [32]byte, alpha []byte, proof [80]byte, want [64]byte, wantErr api.Errno) {
	t.Helper()
	got, e := vrf.Verify(key, alpha, proof)
	if got != want || e != wantErr {
		t.Errorf("%s: Verify(%x, %d bytes, %x) = %x, %d, not %x, %d", what, key, len(alpha), proof, got, e, want, wantErr)
	}
}

// refuse holds that Verify answers the error and 64 noughts.
func refuse(t *testing.T, what string, key [32]byte, alpha []byte, proof [80]byte, want api.Errno) {
	t.Helper()
	expect(t, what, key, alpha, proof, [64]byte{}, want)
}

// prove is Prove of what has a point.
func prove(t *testing.T, c proving) (key [32]byte, proof [80]byte) {
	t.Helper()
	proof, e := vrf.Prove(c.seed, c.alpha)
	if e != api.OK {
		t.Fatalf("Prove(%x, %x): %v", c.seed, c.alpha, e)
	}
	return eddsa.Public(c.seed), proof
}

// P6.1 and P6.3: Prove, Output, and what is proved verified.

func TestKnownProofs(t *testing.T) {
	for _, c := range [][5]string{
		{"9d61b19d effd5a60 ba844af4 92ec2cc4 4449c569 7b326919 703bac03 1cae7f60",
			"d75a980182b10ab7d54bfed3c964073a0ee172f3daa62325af021a68f707511a", "",
			"8657106690b5526245a92b003bb079ccd1a92130477671f6fc01ad16f26f723f26f8a57ccaed74ee" +
				"1b190bed1f479d9727d2d0f9b005a6e456a35d4fb0daab1268a1b0db10836d9826a528ca76567805",
			"90cf1df3b703cce59e2a35b925d411164068269d7b2d29f3301c03dd757876ff" +
				"66b71dda49d2de59d03450451af026798e8f81cd2e333de5cdf4f3e140fdd8ae"},
		{"4ccd089b28ff96da9db6c346ec114e0f5b8a319f35aba624da8cf6ed4fb8a6fb",
			"3d4017c3e843895a92b70aa74d1b7ebc9c982ccf2ec4968cc0cd55f12af4660c", "72",
			"f3141cd382dc42909d19ec5110469e4feae18300e94f304590abdced48aed5933bf0864a62558b3e" +
				"d7f2fea45c92a465301b3bbf5e3e54ddf2d935be3b67926da3ef39226bbc355bdc9850112c8f4b02",
			"eb4440665d3891d668e7e0fcaf587f1b4bd7fbfe99d0eb2211ccec90496310eb" +
				"5e33821bc613efb94db5e5b54c70a848a0bef4553a41befc57663b56373a5031"},
		{"c5aa8df43f9f837bedb7442f31dcb7b166d38535076f094b85ce3a2e0b4458f7",
			"fc51cd8e6218a1a38da47ed00230f0580816ed13ba3303ac5deb911548908025", "af82",
			"9bc0f79119cc5604bf02d23b4caede71393cedfbb191434dd016d30177ccbf8096bb474e53895c36" +
				"2d8628ee9f9ea3c0e52c7a5c691b6c18c9979866568add7a2d41b00b05081ed0f58ee5e31b3a970e",
			"645427e5d00c62a23fb703732fa5d892940935942101e456ecca7bb217c61c45" +
				"2118fec1219202a0edcf038bb6373241578be7217ba85a2687f7a0310b2df19f"},
	} {
		seed, key, alpha := [32]byte(unhex(t, c[0])), [32]byte(unhex(t, c[1])), unhex(t, c[2])
		proof, output := [80]byte(unhex(t, c[3])), [64]byte(unhex(t, c[4]))
		expectProof(t, proving{seed, alpha}, proof)
		expectOutput(t, "a known proof", proof, output, api.OK)
		expect(t, "a known proof", key, alpha, proof, output, api.OK)
	}
}

func TestProveAsTheChapterSays(t *testing.T) {
	found := map[int]int{}
	for _, c := range cases() {
		proof, at := proved(t, c.seed, c.alpha)
		found[at]++
		output := told(t, [32]byte(proof[:32]))
		expectProof(t, c, proof)
		expectOutput(t, "a proof", proof, output, api.OK)
		expect(t, "what was proved", eddsa.Public(c.seed), c.alpha, proof, output, api.OK)
	}
	for at := range 4 {
		if found[at] == 0 {
			t.Errorf("no input whose point is found at c = %d: %v", at, found)
		}
	}
}

// Points that are found late ask for many tries, each with a hash of its own.
func TestPointIsFoundLate(t *testing.T) {
	r := rand.New(rand.NewSource(64))
	seed := filled(5)
	key := eddsa.Public(seed)
	for count, latest := 0, 0; count < 6 || latest < 9; {
		alpha := drawn(r, r.Intn(90))
		_, at := tried(t, key, alpha)
		if at < 6 {
			continue
		}
		count, latest = count+1, max(latest, at)
		proof, _ := proved(t, seed, alpha)
		expectProof(t, proving{seed, alpha}, proof)
		expect(t, "found late", key, alpha, proof, told(t, [32]byte(proof[:32])), api.OK)
	}
}

// The library's own hash stands apart from layer 1.
func TestOutputByTheLibrary(t *testing.T) {
	for _, c := range cases() {
		_, proof := prove(t, c)
		cleared := product(t, small(8), [32]byte(proof[:32]))
		text := slices.Concat([]byte{3, 3}, cleared[:], []byte{0})
		expectOutput(t, "a proof", proof, sha512.Sum512(text), api.OK)
	}
}

// Output asks of a proof its form alone: any point and any c, any canonical t.
func TestOutputOfWhatProvesNothing(t *testing.T) {
	r := rand.New(rand.NewSource(65))
	points := append(smallOnes(t), point.Generator())
	for _, s := range smallOnes(t) {
		points = append(points, sum(t, point.Base([32]byte(drawn(r, 32))), s))
	}
	for _, gamma := range points {
		for _, c := range [][16]byte{{}, [16]byte(drawn(r, 16)), {15: 255}} {
			for _, last := range [][32]byte{{}, small(1), more(order(), -1)} {
				expectOutput(t, "any point", joined(gamma, c, last), told(t, gamma), api.OK)
			}
			for _, last := range [][32]byte{more(order(), 0), more(order(), 1), filled(255)} {
				expectOutput(t, "t isn't canonical", joined(gamma, c, last), [64]byte{}, api.ErrForm)
			}
		}
	}
}

func TestNilAndEmptyInput(t *testing.T) {
	seed := filled(7)
	key, proof := prove(t, proving{seed, nil})
	output, _ := vrf.Output(proof)
	for _, alpha := range [][]byte{nil, {}, make([]byte, 0, 9)} {
		expectProof(t, proving{seed, alpha}, proof)
		expect(t, "an input of no bytes", key, alpha, proof, output, api.OK)
	}
	refuse(t, "a nought byte", key, []byte{0}, proof, api.ErrSig)
}

// P6.2: what is refused.

// formOf is ErrForm, if the proof has a G that is no point or a t that isn't
// canonical, and else ErrSig.
func formOf(proof [80]byte) api.Errno {
	if point.Check([32]byte(proof[:32])) != api.OK || numberOf(proof[48:]).Cmp(order()) >= 0 {
		return api.ErrForm
	}
	return api.ErrSig
}

// holdTurned asks Verify with one bit turned in each part, every step-th of them.
func holdTurned(t *testing.T, c proving, step int) {
	t.Helper()
	key, proof := prove(t, c)
	// A place of its own to begin with for each case, so that all bits have their turn.
	begin := int(proof[0]) % step
	for bit := begin; bit < 256; bit += step {
		other, want := [32]byte(turned(key[:], bit)), api.ErrForm
		if point.Check(other) == api.OK {
			want = api.ErrSig
		}
		refuse(t, "a bit of the key", other, c.alpha, proof, want)
	}
	for bit := begin; bit < 640; bit += step {
		other := [80]byte(turned(proof[:], bit))
		refuse(t, "a bit of the proof", key, c.alpha, other, formOf(other))
		if formOf(other) == api.ErrForm {
			expectOutput(t, "a bit of the proof", other, [64]byte{}, api.ErrForm)
		} else {
			expectOutput(t, "a bit of the proof", other, told(t, [32]byte(other[:32])), api.OK)
		}
	}
	for bit := begin; bit < 8*len(c.alpha) && bit < 4096; bit += step {
		refuse(t, "a bit of the input", key, turned(c.alpha, bit), proof, api.ErrSig)
	}
	if n := len(c.alpha); n > 0 {
		refuse(t, "the last bit of the input", key, turned(c.alpha, 8*n-1), proof, api.ErrSig)
		refuse(t, "a byte less", key, c.alpha[:n-1], proof, api.ErrSig)
		refuse(t, "a byte less ahead", key, c.alpha[1:], proof, api.ErrSig)
	}
	refuse(t, "a byte more", key, append(slices.Clone(c.alpha), 0), proof, api.ErrSig)
	refuse(t, "another's key", eddsa.Public(filled(99)), c.alpha, proof, api.ErrSig)
}

func TestOneBitTurned(t *testing.T) {
	r := rand.New(rand.NewSource(66))
	for _, n := range []int{0, 1, 33} {
		holdTurned(t, proving{[32]byte(drawn(r, 32)), drawn(r, n)}, 1)
	}
	for _, c := range cases() {
		holdTurned(t, c, 157)
	}
}

func TestKeyIsNoPoint(t *testing.T) {
	_, proof := prove(t, proving{filled(3), []byte("no point")})
	for _, key := range noPoints() {
		refuse(t, "no point", key, []byte("no point"), proof, api.ErrForm)
		refuse(t, "no point, no proof", key, []byte("no point"), [80]byte{}, api.ErrForm)
		refuse(t, "no point, t beyond", key, nil, joined(point.Zero(), [16]byte{}, filled(255)), api.ErrForm)
	}
}

// With a small key that c takes to Zero, U is Base(t), and any G of the form
// that the key's number asks fits: it is refused then too.
func TestKeyIsSmall(t *testing.T) {
	_, proof := prove(t, proving{filled(3), nil})
	for _, key := range smallOnes(t) {
		refuse(t, "a small key", key, nil, proof, api.ErrForm)
		refuse(t, "a small key, t beyond", key, nil, joined(point.Zero(), [16]byte{}, filled(255)), api.ErrForm)
		refuse(t, "a small key, G no point", key, nil, joined(small(2), [16]byte{}, small(1)), api.ErrForm)
		fits := 0
		for n := range 64 {
			alpha := []byte{byte(n)}
			input, _ := tried(t, key, alpha)
			k := small(1 + n)
			c := asked(key, input, point.Zero(), point.Base(k), product(t, k, input))
			if product(t, bytesOf(numberOf(c[:])), key) == point.Zero() {
				fits++
			}
			refuse(t, "a small key, and c fits", key, alpha, joined(point.Zero(), c, k), api.ErrForm)
		}
		if fits == 0 {
			t.Errorf("%x: no input at which c fits", key)
		}
	}
}

func TestGammaIsNoPoint(t *testing.T) {
	for _, c := range cases()[:4] {
		key, proof := prove(t, c)
		_, ask, last := split(proof)
		for _, gamma := range noPoints() {
			for _, second := range [][32]byte{last, {}, filled(255)} {
				other := joined(gamma, ask, second)
				expectOutput(t, "G is no point", other, [64]byte{}, api.ErrForm)
				refuse(t, "G is no point", key, c.alpha, other, api.ErrForm)
			}
		}
	}
}

func TestLastPart(t *testing.T) {
	for _, c := range cases()[:40] {
		key, proof := prove(t, c)
		gamma, ask, last := split(proof)
		output := told(t, gamma)
		for _, s := range []struct {
			what string
			last [32]byte
			want api.Errno
		}{
			{"0", [32]byte{}, api.ErrSig},
			{"L - 1", more(order(), -1), api.ErrSig},
			{"L", more(order(), 0), api.ErrForm},
			{"L + 1", more(order(), 1), api.ErrForm},
			{"t and L", bytesOf(new(big.Int).Add(numberOf(last[:]), order())), api.ErrForm},
			{"t and 8 L", bytesOf(new(big.Int).Add(numberOf(last[:]), new(big.Int).Lsh(order(), 3))), api.ErrForm},
			{"less t", scalar.Neg(last), api.ErrSig},
			{"255s", filled(255), api.ErrForm},
		} {
			other := joined(gamma, ask, s.last)
			refuse(t, s.what, key, c.alpha, other, s.want)
			if s.want == api.ErrForm {
				expectOutput(t, s.what, other, [64]byte{}, api.ErrForm)
			} else {
				expectOutput(t, s.what, other, output, api.OK)
			}
		}
	}
}

// made is a proof by the number s with G taken as it is handed in, that holds
// under the key if c takes what is small in it, and in the key, to Zero.
func made(t *testing.T, key, gamma, s, k, input [32]byte) [80]byte {
	t.Helper()
	c := asked(key, input, gamma, point.Base(k), product(t, k, input))
	return joined(gamma, c, second(k, c, s))
}

// hold asks Verify and tells what the chapter's words judge.
func hold(t *testing.T, what string, key [32]byte, alpha []byte, proof [80]byte) api.Errno {
	t.Helper()
	output, want := judged(t, key, alpha, proof)
	expect(t, what, key, alpha, proof, output, want)
	return want
}

func TestGammaIsSmall(t *testing.T) {
	for _, c := range cases()[:6] {
		number, _ := secret(c.seed)
		key, proof := prove(t, c)
		_, ask, last := split(proof)
		input, _ := tried(t, key, c.alpha)
		for i, gamma := range smallOnes(t) {
			if hold(t, "G is small", key, c.alpha, joined(gamma, ask, last)) != api.ErrSig {
				t.Error("a small G in another's place has another answer than ErrSig")
			}
			hold(t, "G is small", key, c.alpha, made(t, key, gamma, number, small(i+1), input))
			expectOutput(t, "G is small", joined(gamma, ask, last), told(t, point.Zero()), api.OK)
		}
	}
}

// The two sums are asked for as they stand, not taken 8 times: a G of mixed
// order is taken where c takes its small part to Zero, and tells the same number.
func TestGammaOfMixedOrder(t *testing.T) {
	seed, alpha := filled(11), []byte("mixed")
	number, _ := secret(seed)
	key, proof := prove(t, proving{seed, alpha})
	input, _ := tried(t, key, alpha)
	output, _ := vrf.Output(proof)
	answers := map[api.Errno]int{}
	for _, s := range smallOnes(t)[1:] {
		gamma := sum(t, [32]byte(proof[:32]), s)
		for n := range 24 {
			other := made(t, key, gamma, number, small(n+1), input)
			want := hold(t, "a G of mixed order", key, alpha, other)
			answers[want]++
			if want == api.OK {
				expect(t, "a G of mixed order", key, alpha, other, output, api.OK)
			}
			expectOutput(t, "a G of mixed order", other, output, api.OK)
		}
	}
	if answers[api.OK] == 0 || answers[api.ErrSig] == 0 || answers[api.ErrForm] != 0 {
		t.Errorf("the proofs made have the answers %v", answers)
	}
}

func TestKeyOfMixedOrder(t *testing.T) {
	number, _ := secret(filled(12))
	answers := map[api.Errno]int{}
	for i, s := range smallOnes(t)[1:] {
		key := sum(t, point.Base(number), s)
		for n := range 24 {
			alpha := []byte{byte(i), byte(n)}
			input, _ := tried(t, key, alpha)
			proof := made(t, key, product(t, number, input), number, small(n+1), input)
			answers[hold(t, "a key of mixed order", key, alpha, proof)]++
		}
	}
	if answers[api.OK] == 0 || answers[api.ErrSig] == 0 || answers[api.ErrForm] != 0 {
		t.Errorf("the proofs made have the answers %v", answers)
	}
}

// A proof binds each of its two sums: one that is right for U alone, or for V
// alone, is none.
func TestOneSumAlone(t *testing.T) {
	seed, alpha := filled(13), []byte("one sum")
	number, _ := secret(seed)
	key, proof := prove(t, proving{seed, alpha})
	gamma := [32]byte(proof[:32])
	input, _ := tried(t, key, alpha)
	k, other := small(77), scalar.Add(number, small(1))
	another := product(t, other, input)
	// U is right, and V isn't: G is not the input taken s times.
	if hold(t, "U alone", key, alpha, made(t, key, another, number, k, input)) != api.ErrSig {
		t.Error("another G was proved")
	}
	// V is right, and U isn't: the key is not the one of the number taken.
	if hold(t, "V alone", key, alpha, made(t, key, another, other, k, input)) != api.ErrSig {
		t.Error("a G of another key was proved")
	}
	if hold(t, "both", key, alpha, made(t, key, gamma, number, k, input)) != api.OK {
		t.Error("a proof with a k of its own was not proved")
	}
	// The point of the input under another key.
	elsewhere, _ := tried(t, eddsa.Public(filled(14)), alpha)
	if hold(t, "another's input", key, alpha, made(t, key, product(t, number, elsewhere), number, k, elsewhere)) != api.ErrSig {
		t.Error("the point of the input hangs not on the key")
	}
}

// The rules: nothing panics, and what is handed in stays as it is.

func TestAnyBytes(t *testing.T) {
	r := rand.New(rand.NewSource(67))
	for range 600 {
		key, proof, alpha := [32]byte(drawn(r, 32)), [80]byte(drawn(r, 80)), drawn(r, r.Intn(200))
		if r.Intn(4) > 0 {
			proof[79] &= 0x0f
		}
		hold(t, "drawn bytes", key, alpha, proof)
	}
	for _, b := range []byte{0, 1, 127, 128, 255} {
		hold(t, "one byte throughout", filled(b), nil, [80]byte(bytes.Repeat([]byte{b}, 80)))
		hold(t, "one byte throughout", point.Generator(), nil, [80]byte(bytes.Repeat([]byte{b}, 80)))
	}
}

func TestInputStays(t *testing.T) {
	r := rand.New(rand.NewSource(68))
	for _, n := range lengths() {
		seed, whole := [32]byte(drawn(r, 32)), drawn(r, n+300)
		was := slices.Clone(whole)
		for _, alpha := range [][]byte{whole[:n], whole[:n:n], whole[7 : n+7]} {
			key, proof := prove(t, proving{seed, alpha})
			expectProof(t, proving{seed, slices.Clone(alpha)}, proof)
			expect(t, "an input with room", key, alpha, proof, told(t, [32]byte(proof[:32])), api.OK)
			refuse(t, "an input with room", key, alpha, joined(point.Generator(), [16]byte{}, [32]byte{}), api.ErrSig)
			refuse(t, "an input with room", small(2), alpha, proof, api.ErrForm)
			if !bytes.Equal(whole, was) {
				t.Fatalf("%d bytes: the input or its room was changed", n)
			}
		}
	}
}

func TestInputIsNotKept(t *testing.T) {
	seed, alpha := filled(21), []byte("as it was")
	key, proof := prove(t, proving{seed, alpha})
	was := slices.Clone(alpha)
	copy(alpha, "otherwise")
	if _, now := prove(t, proving{seed, alpha}); now == proof {
		t.Error("a proof isn't that of the input as it is at the call")
	}
	expectProof(t, proving{seed, was}, proof)
	expect(t, "the input as it was", key, was, proof, told(t, [32]byte(proof[:32])), api.OK)
	refuse(t, "the input as it is", key, alpha, proof, api.ErrSig)
}
