package keyring_test

import (
	"math"
	"math/rand"
	"testing"

	"beacon/api"
	"beacon/eddsa"
	"beacon/keyring"
	"beacon/point"
)

// P14.1: seeds, keys and certificates. P14.2: certificates are judged.

// Worked out apart from this program, in another language.
func TestKnownSeedsAndKeys(t *testing.T) {
	for _, c := range []struct{ secret, sign, vrf, signKey, vrfKey string }{
		{"0000000000000000000000000000000000000000000000000000000000000000",
			"dd81170086d2ee9187627ec403d5936e00baaf842d2cce986851f92cf0f44655",
			"43285b5d53fa0a0feb5213ed73c6f791b410213bf411a8a636dcb0b2bec72b12",
			"6d26a4d7d2c5f222890d20bab7d632224060b847ce89bd254ff08d727aa720a1",
			"7f6c208f7f1b8cc6e1b578bdde0150cc41371c606e6216ef0dccea9f1663a73a"},
		{"0100000000000000000000000000000000000000000000000000000000000000",
			"f48810603cef9c6396359bde476b4dbfaa3ef21fcd5a92bf96671703cc3351d6",
			"318cee2876ff045b8fdae9a42423a2e2f16bd5935356ecf44521da7d10b305f2",
			"6632f60febf7e0d30f0f636eb8640db80cba4cc6a827f361bbbf2e5ffb648b3a",
			"438aedd04b3fa498d40e665bb5a8a7017d4e02df6a87898707fded5164c4268a"},
		{"ffffffffffffffffffffffffffffffffffffffffffffffffffffffffffffffff",
			"3129296e67c984a9161c2dc99befeffb5e40868291258a51e21454ca3baebfaa",
			"059935c9474c17000028582d3554e530a8ee88f4babb6e60d5bace0a4bcc0af1",
			"9844fa5994dd83f98d34369deca006e099ea770e73caf7f6dc8ffba7dc3227fd",
			"7df96e335e3104a81d5d2919547b064bce29b8dbd9cc61916b78b106c05ee992"},
		{"000102030405060708090a0b0c0d0e0f101112131415161718191a1b1c1d1e1f",
			"852bff35f30adbc75a19add6f2de819fc0315f316b9fc1d482de0a67a1a733cf",
			"e5a7055d886393b4e1c4b381b0875fa2000d0765ccce871ef43c4423fad6b3bf",
			"dd88e1dbd3f0650711ae02f5448d099f8b20e3ea791f6981e5fd881fbbddcb94",
			"b833e8d8ccb1bb13c777d7091434b1435ac34eb94a84a265ee14b759d80999ba"},
	} {
		secret := [32]byte(unhex(t, c.secret))
		if got := keyring.SignSeed(secret); got != [32]byte(unhex(t, c.sign)) {
			t.Errorf("SignSeed(%s): %x", c.secret, got)
		}
		if got := keyring.VrfSeed(secret); got != [32]byte(unhex(t, c.vrf)) {
			t.Errorf("VrfSeed(%s): %x", c.secret, got)
		}
		want := api.Keys{Gen: 7, Sign: [32]byte(unhex(t, c.signKey)), Vrf: [32]byte(unhex(t, c.vrfKey))}
		if got := keyring.Public(secret, 7); got != want {
			t.Errorf("Public(%s, 7): %x; want %x", c.secret, got, want)
		}
	}
}

func TestSeedsAndKeysAsTheChapterSays(t *testing.T) {
	r := rand.New(rand.NewSource(1))
	all := secrets()
	for range 40 {
		all = append(all, drawn(r))
	}
	for i, s := range all {
		if got := keyring.SignSeed(s); got != plainSeed("sign", s) {
			t.Errorf("SignSeed(%x): %x", s, got)
		}
		if got := keyring.VrfSeed(s); got != plainSeed("vrf", s) {
			t.Errorf("VrfSeed(%x): %x", s, got)
		}
		gen := numbers()[i%len(numbers())]
		if got, want := keyring.Public(s, gen), plainPublic(s, gen); got != want {
			t.Errorf("Public(%x, %d): %x; want %x", s, gen, got, want)
		}
	}
}

// Worked out apart from this program, in another language.
func TestKnownCertificates(t *testing.T) {
	all := secrets()
	none, one, full, rising := all[0], all[1], all[4], all[5]
	for _, c := range []struct {
		by, of     [32]byte
		gen, epoch uint64
		sig        string
	}{
		{none, one, 1, 5, "8ae9f83d2df2a47a775fc0067cef7211e43c312cf575457085286b95c0b00de2" +
			"7bee59b9c4feb2051c45e8bc7e085320d797a1a907f0b3a62576a5243869e101"},
		{full, rising, math.MaxUint64, math.MaxUint64, "308e6fd06db79ad8a2b96eed46206f285b437e0d905d16187989e7a3c358342a" +
			"14529cb0f1df8fe64dfe88b9755a5bd990403df2bf6e2af7c6fecb7714742905"},
		{rising, none, 0, 0, "ca7e1c58eaf9d8725b117cd82a7921f979138aa309a67f1025f1ae2bd6595ace" +
			"246dd6fe3cb6dfcbfc3787780a597f63e99e78c81fb474bf2311d3e54026bb0a"},
	} {
		keys := plainPublic(c.of, c.gen)
		want := api.Cert{Keys: keys, Epoch: c.epoch, Sig: [64]byte(unhex(t, c.sig))}
		if got := keyring.Certify(c.by, keys, c.epoch); got != want {
			t.Errorf("Certify(%x, %x, %d): %x; want %x", c.by, keys, c.epoch, got, want)
		}
	}
}

// Certify asks nothing of the keys: they stand in the certificate as they are.
func TestCertificatesAsTheChapterSays(t *testing.T) {
	r := rand.New(rand.NewSource(2))
	hold := func(secret [32]byte, keys api.Keys, epoch uint64) {
		t.Helper()
		if got, want := keyring.Certify(secret, keys, epoch), plainCertify(secret, keys, epoch); got != want {
			t.Errorf("Certify(%x, %x, %d): %x; want %x", secret, keys, epoch, got, want)
		}
	}
	hold([32]byte{}, api.Keys{}, 0)
	for _, key := range wrongKeys(t) {
		hold([32]byte{1}, api.Keys{Gen: 1, Sign: key, Vrf: key}, 1)
	}
	for _, n := range numbers() {
		hold([32]byte{2}, api.Keys{Gen: n, Sign: drawn(r), Vrf: drawn(r)}, n/2)
		hold(drawn(r), keyring.Public(drawn(r), drawnNumber(r)), n)
	}
}

func TestWhatIsCertifiedIsAccepted(t *testing.T) {
	r := rand.New(rand.NewSource(3))
	for _, gen := range numbers() {
		if gen == math.MaxUint64 {
			continue
		}
		for _, epoch := range []uint64{0, 1, drawnNumber(r), math.MaxUint64} {
			old, next := drawn(r), drawn(r)
			c := keyring.Certify(old, keyring.Public(next, gen+1), epoch)
			expectCert(t, "its own", keyring.Public(old, gen), c, api.OK)
			expectCert(t, "the new keys'", keyring.Public(next, gen), c, api.ErrSig)
			expectCert(t, "another's", keyring.Public(drawn(r), gen), c, api.ErrSig)
		}
	}
	same := keyring.Certify([32]byte{1}, keyring.Public([32]byte{1}, 1), 1)
	expectCert(t, "the same secret again", keyring.Public([32]byte{1}, 0), same, api.OK)
}

func TestOnlyTheNextGeneration(t *testing.T) {
	for _, gen := range numbers() {
		c := keyring.Certify([32]byte{1}, keyring.Public([32]byte{2}, gen), 5)
		for _, old := range append(numbers(), gen-2, gen-1, gen+1) {
			want := api.ErrArg
			if gen > 0 && old == gen-1 {
				want = api.OK
			}
			expectCert(t, "generations", keyring.Public([32]byte{1}, old), c, want)
		}
	}
	last := keyring.Public([32]byte{1}, math.MaxUint64)
	for _, gen := range numbers() {
		expectCert(t, "none behind the last", last, keyring.Certify([32]byte{1}, keyring.Public([32]byte{2}, gen), 5), api.ErrArg)
	}
}

func TestKeysThatAreNone(t *testing.T) {
	secret, old, good := [32]byte{1}, keyring.Public([32]byte{1}, 0), keyring.Public([32]byte{2}, 1)
	for _, key := range wrongKeys(t) {
		for _, keys := range []api.Keys{{Gen: 1, Sign: key, Vrf: good.Vrf}, {Gen: 1, Sign: good.Sign, Vrf: key}, {Gen: 1, Sign: key, Vrf: key}} {
			expectCert(t, "signed", old, keyring.Certify(secret, keys, 5), api.ErrForm)
			expectCert(t, "not signed", old, api.Cert{Keys: keys, Epoch: 5}, api.ErrForm)
		}
	}
}

// A point with a part of small order is not Small itself.
func TestKeysWithASmallPart(t *testing.T) {
	secret, old, keys := [32]byte{1}, keyring.Public([32]byte{1}, 0), keyring.Public([32]byte{2}, 1)
	for _, s := range smallPoints(t) {
		mixed := keys
		mixed.Sign, _ = point.Add(keys.Sign, s)
		expectCert(t, "Sign", old, keyring.Certify(secret, mixed, 5), api.OK)
		mixed = keys
		mixed.Vrf, _ = point.Add(keys.Vrf, s)
		expectCert(t, "Vrf", old, keyring.Certify(secret, mixed, 5), api.OK)
	}
}

// Of the old keys the number and Sign are asked, Vrf isn't.
func TestOldKeysThatAreNone(t *testing.T) {
	c := keyring.Certify([32]byte{1}, keyring.Public([32]byte{2}, 1), 5)
	for _, key := range wrongKeys(t) {
		old := keyring.Public([32]byte{1}, 0)
		old.Vrf = key
		expectCert(t, "the old Vrf", old, c, api.OK)
		old.Sign = key
		expectCert(t, "the old Sign", old, c, api.ErrForm)
	}
}

func TestCheckCertAsksInOrder(t *testing.T) {
	old, wrong := keyring.Public([32]byte{1}, 3), [32]byte{2}
	keys := keyring.Public([32]byte{2}, 4)
	c := keyring.Certify([32]byte{1}, keys, 5)
	early := keyring.Certify([32]byte{1}, api.Keys{Gen: 3, Sign: wrong, Vrf: wrong}, 5)
	expectCert(t, "number and keys", old, early, api.ErrArg)
	expectCert(t, "number and signature", old, api.Cert{Keys: api.Keys{Gen: 5, Sign: keys.Sign, Vrf: keys.Vrf}}, api.ErrArg)
	expectCert(t, "number and old key", api.Keys{Gen: 4, Sign: wrong}, c, api.ErrArg)
	expectCert(t, "all of it", api.Keys{}, api.Cert{}, api.ErrArg)
	expectCert(t, "keys and signature", old, api.Cert{Keys: api.Keys{Gen: 4, Sign: keys.Sign, Vrf: wrong}}, api.ErrForm)
	expectCert(t, "keys and signature", old, api.Cert{Keys: api.Keys{Gen: 4, Sign: wrong, Vrf: keys.Vrf}}, api.ErrForm)
	far := c
	far.Sig = beyond(c.Sig)
	expectCert(t, "S beyond L", old, far, api.ErrForm)
	far.Epoch++
	expectCert(t, "S beyond L, and another epoch", old, far, api.ErrForm)
	expectCert(t, "no signature", old, api.Cert{Keys: keys, Epoch: 5}, api.ErrSig)
}

// No bit of a certificate, nor of the key that signed it, can be another one.
func TestTurnedCertificates(t *testing.T) {
	old := keyring.Public([32]byte{1}, 6)
	c := keyring.Certify([32]byte{1}, keyring.Public([32]byte{2}, 7), 258)
	told := map[api.Errno]int{}
	hold := func(what string, old api.Keys, c api.Cert) {
		t.Helper()
		want := plainCheckCert(old, c)
		told[want]++
		expectCert(t, what, old, c, want)
	}
	for bit := range 64 {
		other := c
		other.Keys.Gen ^= 1 << bit
		hold("a bit of Gen", old, other)
		other = c
		other.Epoch ^= 1 << bit
		hold("a bit of Epoch", old, other)
	}
	for bit := range 256 {
		at, mask := bit/8, byte(1)<<(bit%8)
		other := c
		other.Keys.Sign[at] ^= mask
		hold("a bit of Sign", old, other)
		other = c
		other.Keys.Vrf[at] ^= mask
		hold("a bit of Vrf", old, other)
		key := old
		key.Sign[at] ^= mask
		hold("a bit of the old key", key, c)
	}
	for bit := range 512 {
		other := c
		other.Sig[bit/8] ^= 1 << (bit % 8)
		hold("a bit of Sig", old, other)
	}
	if told[api.OK] != 0 || told[api.ErrArg] != 64 || told[api.ErrForm] == 0 || told[api.ErrSig] == 0 {
		t.Errorf("turned certificates are answered %v", told)
	}
}

// What isn't signed as the chapter says is refused, though the old key signed it.
func TestOtherBytesSigned(t *testing.T) {
	old, keys := keyring.Public([32]byte{1}, 0), keyring.Public([32]byte{2}, 1)
	seed := keyring.SignSeed([32]byte{1})
	for _, message := range [][]byte{
		nil,
		[]byte("cert"),
		written(number(1), keys.Sign[:], keys.Vrf[:], number(5)),
		written([]byte("cert"), number(1), keys.Vrf[:], keys.Sign[:], number(5)),
		written([]byte("cert"), number(5), keys.Sign[:], keys.Vrf[:], number(1)),
		written([]byte("root"), number(1), keys.Sign[:], keys.Vrf[:], number(5)),
		append(plainCertBytes(keys, 5), 0),
	} {
		expectCert(t, "other bytes", old, api.Cert{Keys: keys, Epoch: 5, Sig: eddsa.Sign(seed, message)}, api.ErrSig)
	}
	right := plainCertBytes(keys, 5)
	expectCert(t, "by the secret itself", old, api.Cert{Keys: keys, Epoch: 5, Sig: eddsa.Sign([32]byte{1}, right)}, api.ErrSig)
	expectCert(t, "by the VRF seed", old, api.Cert{Keys: keys, Epoch: 5, Sig: eddsa.Sign(keyring.VrfSeed([32]byte{1}), right)}, api.ErrSig)
	expectCert(t, "by the signing seed", old, api.Cert{Keys: keys, Epoch: 5, Sig: eddsa.Sign(seed, right)}, api.OK)
}

func FuzzCheckCert(f *testing.F) {
	f.Add([]byte{1}, []byte{2}, uint64(0), uint64(1), uint64(5), []byte{})
	f.Add([]byte{}, []byte{}, uint64(math.MaxUint64), uint64(0), uint64(0), []byte{1})
	f.Fuzz(func(t *testing.T, one, two []byte, gen, next, epoch uint64, sig []byte) {
		var a, b [32]byte
		copy(a[:], one)
		copy(b[:], two)
		c := keyring.Certify(a, keyring.Public(b, next), epoch)
		old := keyring.Public(a, gen)
		expectCert(t, "signed", old, c, plainCheckCert(old, c))
		c.Keys.Vrf = b
		copy(c.Sig[:], sig)
		expectCert(t, "changed", old, c, plainCheckCert(old, c))
		old.Sign = a
		expectCert(t, "any key", old, c, plainCheckCert(old, c))
	})
}
