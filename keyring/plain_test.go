package keyring_test

import (
	"bytes"
	"crypto/ed25519"
	"crypto/sha256"
	"encoding/binary"
	"encoding/hex"
	"math"
	"math/rand"
	"slices"
	"testing"

	"beacon/api"
	"beacon/eddsa"
	"beacon/keyring"
	"beacon/point"
)

// A second, plain reading of the chapter: bytes, hashes, keys and signatures by
// Go's own library, verified by layer 5.

// written is a list's bytes.
func written(list ...[]byte) []byte {
	b := binary.BigEndian.AppendUint32(nil, uint32(len(list)))
	for _, m := range list {
		b = binary.BigEndian.AppendUint32(b, uint32(len(m)))
		b = append(b, m...)
	}
	return b
}

func number(n uint64) []byte { return binary.BigEndian.AppendUint64(nil, n) }

func plainSeed(word string, secret [32]byte) [32]byte {
	return sha256.Sum256(slices.Concat([]byte(word), secret[:]))
}

func plainKey(seed [32]byte) [32]byte {
	return [32]byte(ed25519.NewKeyFromSeed(seed[:]).Public().(ed25519.PublicKey))
}

func plainSign(secret [32]byte, message []byte) [64]byte {
	seed := plainSeed("sign", secret)
	return [64]byte(ed25519.Sign(ed25519.NewKeyFromSeed(seed[:]), message))
}

func plainPublic(secret [32]byte, gen uint64) api.Keys {
	return api.Keys{Gen: gen, Sign: plainKey(plainSeed("sign", secret)), Vrf: plainKey(plainSeed("vrf", secret))}
}

func plainCertBytes(keys api.Keys, epoch uint64) []byte {
	return written([]byte("cert"), number(keys.Gen), keys.Sign[:], keys.Vrf[:], number(epoch))
}

func plainCertify(secret [32]byte, keys api.Keys, epoch uint64) api.Cert {
	return api.Cert{Keys: keys, Epoch: epoch, Sig: plainSign(secret, plainCertBytes(keys, epoch))}
}

// plainWrongKey: no point, or one that is Zero when taken 8 times.
func plainWrongKey(key [32]byte) bool {
	times, e := point.Mul([32]byte{8}, key)
	return e != api.OK || times == [32]byte{1}
}

func plainCheckCert(old api.Keys, c api.Cert) api.Errno {
	switch {
	case old.Gen == math.MaxUint64, old.Gen+1 != c.Keys.Gen:
		return api.ErrArg
	case plainWrongKey(c.Keys.Sign), plainWrongKey(c.Keys.Vrf):
		return api.ErrForm
	}
	return eddsa.Verify(old.Sign, plainCertBytes(c.Keys, c.Epoch), c.Sig)
}

func plainChain(first api.Keys, certs []api.Cert) ([]api.Keys, api.Errno) {
	out := []api.Keys{first}
	for i, c := range certs {
		if c.Epoch == 0 || i > 0 && c.Epoch <= certs[i-1].Epoch {
			return nil, api.ErrArg
		}
		if e := plainCheckCert(out[i], c); e != api.OK {
			return nil, e
		}
		out = append(out, c.Keys)
	}
	return out, api.OK
}

func plainAt(first api.Keys, certs []api.Cert, epoch uint64) api.Keys {
	for i := len(certs) - 1; i >= 0; i-- {
		if certs[i].Epoch <= epoch {
			return certs[i].Keys
		}
	}
	return first
}

func plainRootBytes(r api.Root) []byte {
	return written([]byte("root"), number(r.Epoch), number(r.Kind), number(r.Gen), r.Prev[:], r.Hash[:], r.Link[:])
}

func plainSignRoot(secret [32]byte, r api.Root) api.Root {
	r.Sig = plainSign(secret, plainRootBytes(r))
	return r
}

func plainCheckRoot(keys api.Keys, r api.Root) api.Errno {
	if keys.Gen != r.Gen {
		return api.ErrArg
	}
	return eddsa.Verify(keys.Sign, plainRootBytes(r), r.Sig)
}

// Calls, held against what is wanted.

func expectCert(t *testing.T, what string, old api.Keys, c api.Cert, want api.Errno) {
	t.Helper()
	if got := keyring.CheckCert(old, c); got != want {
		t.Errorf("%s: CheckCert(%x, %x): %v; want %v", what, old, c, got, want)
	}
	if plain := plainCheckCert(old, c); plain != want {
		t.Errorf("%s: (%x, %x) is %v by the chapter; the test wants %v", what, old, c, plain, want)
	}
}

func expectChain(t *testing.T, what string, first api.Keys, certs []api.Cert, want api.Errno) {
	t.Helper()
	keys, plain := plainChain(first, certs)
	if got, e := keyring.Chain(first, certs); !slices.Equal(got, keys) || e != want {
		t.Errorf("%s: Chain(%x, %x): %x, %v; want %x, %v", what, first, certs, got, e, keys, want)
	}
	if plain != want {
		t.Errorf("%s: (%x, %x) is %v by the chapter; the test wants %v", what, first, certs, plain, want)
	}
}

func expectAt(t *testing.T, what string, first api.Keys, certs []api.Cert, epoch uint64, want api.Keys) {
	t.Helper()
	if got := keyring.At(first, certs, epoch); got != want {
		t.Errorf("%s: At(%x, %x, %d): %x; want %x", what, first, certs, epoch, got, want)
	}
}

func expectRoot(t *testing.T, what string, keys api.Keys, r api.Root, want api.Errno) {
	t.Helper()
	if got := keyring.CheckRoot(keys, r); got != want {
		t.Errorf("%s: CheckRoot(%x, %x): %v; want %v", what, keys, r, got, want)
	}
	if plain := plainCheckRoot(keys, r); plain != want {
		t.Errorf("%s: (%x, %x) is %v by the chapter; the test wants %v", what, keys, r, plain, want)
	}
}

// What is asked.

func secrets() [][32]byte {
	var rising [32]byte
	for i := range rising {
		rising[i] = byte(i)
	}
	return [][32]byte{{}, {1}, {31: 1}, {31: 128}, filled(255), rising}
}

func numbers() []uint64 {
	return []uint64{0, 1, 2, 5, 255, 256, 258, 1 << 32, 1<<63 - 1, 1 << 63, math.MaxUint64 - 1, math.MaxUint64}
}

// smallPoints are all eight points of small order.
func smallPoints(t *testing.T) [][32]byte {
	t.Helper()
	eighth := [32]byte(unhex(t, "c7176a703d4dd84fba3c0b760d10670f2a2053fa2c39ccc64ec7fd7792ac037a"))
	out := [][32]byte{{1}}
	for range 7 {
		next, e := point.Add(out[len(out)-1], eighth)
		if e != api.OK || slices.Contains(out, next) {
			t.Fatalf("%x: %v", next, e)
		}
		out = append(out, next)
	}
	return out
}

// noPoints: no x fits; y is p, beyond p, or all bits; and x is 0 with its bit set.
func noPoints(t *testing.T) [][32]byte {
	t.Helper()
	p := filled(255)
	p[0], p[31] = 0xed, 0x7f
	one := p
	one[0] = 0xee
	minus := p
	minus[0], minus[31] = 0xec, 0xff
	out := [][32]byte{{2}, p, one, minus, filled(255), {0: 1, 31: 128}}
	for _, b := range out {
		if point.Check(b) != api.ErrForm {
			t.Fatalf("%x is a point", b)
		}
	}
	return out
}

func wrongKeys(t *testing.T) [][32]byte {
	t.Helper()
	return append(smallPoints(t), noPoints(t)...)
}

// beyond is the signature with an S of L more: the same number modulo L.
func beyond(sig [64]byte) [64]byte {
	order := []byte{
		0xed, 0xd3, 0xf5, 0x5c, 0x1a, 0x63, 0x12, 0x58, 0xd6, 0x9c, 0xf7, 0xa2, 0xde, 0xf9, 0xde, 0x14,
		0, 0, 0, 0, 0, 0, 0, 0, 0, 0, 0, 0, 0, 0, 0, 0x10,
	}
	carry := 0
	for i, b := range order {
		carry += int(sig[32+i]) + int(b)
		sig[32+i] = byte(carry)
		carry >>= 8
	}
	return sig
}

// links are n certificates, one behind the other, from the secret {0} on; their
// epochs rise by one more each time: 1, 3, 6, 10...
func links(n int) (first api.Keys, certs []api.Cert) {
	epoch := uint64(0)
	for i := range n {
		epoch += uint64(i) + 1
		certs = append(certs, keyring.Certify([32]byte{byte(i)}, keyring.Public([32]byte{byte(i + 1)}, uint64(i)+1), epoch))
	}
	return keyring.Public([32]byte{}, 0), certs
}

func drawn(r *rand.Rand) [32]byte {
	var b [32]byte
	r.Read(b[:])
	return b
}

func drawnNumber(r *rand.Rand) uint64 { return r.Uint64() >> r.Intn(64) }

func drawnRoot(r *rand.Rand) api.Root {
	return api.Root{Epoch: drawnNumber(r), Kind: drawnNumber(r), Gen: drawnNumber(r), Prev: drawn(r), Hash: drawn(r), Link: drawn(r)}
}

func filled(b byte) [32]byte { return [32]byte(bytes.Repeat([]byte{b}, 32)) }

func unhex(t *testing.T, s string) []byte {
	t.Helper()
	b, err := hex.DecodeString(s)
	if err != nil {
		t.Fatal(err)
	}
	return b
}
