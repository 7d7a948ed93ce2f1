package keyring_test

import (
	"math"
	"math/rand"
	"testing"

	"beacon/api"
	"beacon/eddsa"
	"beacon/keyring"
)

// P14.4: roots are signed and judged.

// Worked out apart from this program, in another language.
func TestKnownRoots(t *testing.T) {
	all := secrets()
	none, full, rising := all[0], all[4], all[5]
	for _, c := range []struct {
		secret [32]byte
		root   api.Root
		sig    string
	}{
		{none, api.Root{}, "bcbc097cbd4eefd02dd477e2039d376d84ab13be8f264a89dd89cbeab144cfdc" +
			"4cb11740c0dce03fc6aff0cfd20e18099e25af04655dda3c87af76f9f5982d03"},
		{rising, api.Root{Epoch: 258, Kind: api.Migrate, Gen: 7, Prev: filled(1), Hash: filled(2), Link: filled(3)},
			"f924b5c01ac8fcb2715371ab6ac2ec443ecd6aa63b871e9426d872b458f9738a" +
				"b73dd740423651b20cae9df8c78e4730653b75acfac9bacee9b3bc558892dd0e"},
		{full, api.Root{Epoch: math.MaxUint64, Kind: math.MaxUint64, Gen: math.MaxUint64, Prev: filled(255), Hash: filled(254), Link: filled(253)},
			"4553f28c0b76ee5a9b5e54e13c484134cdc7423de6f2adcdf365ea3e341fff44" +
				"aeb8f5bfa12abab3d4d0be18b14a36f6f02123e998d72c18c80ac620559b020e"},
	} {
		want := c.root
		want.Sig = [64]byte(unhex(t, c.sig))
		if got := keyring.SignRoot(c.secret, c.root); got != want {
			t.Errorf("SignRoot(%x, %x): %x; want %x", c.secret, c.root, got, want)
		}
		expectRoot(t, "a known root", keyring.Public(c.secret, c.root.Gen), want, api.OK)
	}
}

// All fields but Sig stay as they are, and a Sig that stands there counts for nothing.
func TestRootsAsTheChapterSays(t *testing.T) {
	r := rand.New(rand.NewSource(6))
	for range 60 {
		secret, root := drawn(r), drawnRoot(r)
		want := plainSignRoot(secret, root)
		if got := keyring.SignRoot(secret, root); got != want {
			t.Errorf("SignRoot(%x, %x): %x; want %x", secret, root, got, want)
		}
		r.Read(root.Sig[:])
		if got := keyring.SignRoot(secret, root); got != want {
			t.Errorf("with another Sig: SignRoot(%x, %x): %x; want %x", secret, root, got, want)
		}
		expectRoot(t, "its own", keyring.Public(secret, root.Gen), want, api.OK)
		expectRoot(t, "another's", keyring.Public(drawn(r), root.Gen), want, api.ErrSig)
		expectRoot(t, "another Sig", keyring.Public(secret, root.Gen), root, plainCheckRoot(plainPublic(secret, root.Gen), root))
	}
}

func TestRootsOfOtherGenerations(t *testing.T) {
	for _, gen := range numbers() {
		r := keyring.SignRoot([32]byte{1}, api.Root{Epoch: 3, Gen: gen})
		for _, other := range append(numbers(), gen-1, gen+1) {
			want := api.ErrArg
			if other == gen {
				want = api.OK
			}
			expectRoot(t, "generations", keyring.Public([32]byte{1}, other), r, want)
		}
	}
}

// The generation is asked first; then come the key and the signature. Vrf isn't asked.
func TestCheckRootAsksInOrder(t *testing.T) {
	keys, r := keyring.Public([32]byte{1}, 2), keyring.SignRoot([32]byte{1}, api.Root{Epoch: 3, Gen: 2})
	for _, key := range wrongKeys(t) {
		expectRoot(t, "generation and key", api.Keys{Gen: 3, Sign: key, Vrf: key}, r, api.ErrArg)
		expectRoot(t, "the key", api.Keys{Gen: 2, Sign: key, Vrf: keys.Vrf}, r, api.ErrForm)
		expectRoot(t, "Vrf", api.Keys{Gen: 2, Sign: keys.Sign, Vrf: key}, r, api.OK)
	}
	far := r
	far.Sig = beyond(r.Sig)
	expectRoot(t, "S beyond L", keys, far, api.ErrForm)
	expectRoot(t, "S beyond L, another generation", keyring.Public([32]byte{1}, 1), far, api.ErrArg)
	expectRoot(t, "the VRF key in Sign's place", api.Keys{Gen: 2, Sign: keys.Vrf, Vrf: keys.Sign}, r, api.ErrSig)
	expectRoot(t, "no signature", keys, api.Root{Epoch: 3, Gen: 2}, api.ErrSig)
	expectRoot(t, "noughts", api.Keys{}, api.Root{}, api.ErrForm)
}

func TestTurnedRoots(t *testing.T) {
	keys := keyring.Public([32]byte{1}, 6)
	root := keyring.SignRoot([32]byte{1}, api.Root{Epoch: 258, Kind: api.Append, Gen: 6, Prev: filled(1), Hash: filled(2), Link: filled(3)})
	told := map[api.Errno]int{}
	hold := func(what string, keys api.Keys, r api.Root) {
		t.Helper()
		want := plainCheckRoot(keys, r)
		told[want]++
		expectRoot(t, what, keys, r, want)
	}
	for bit := range 64 {
		a, b, c := root, root, root
		a.Epoch ^= 1 << bit
		b.Kind ^= 1 << bit
		c.Gen ^= 1 << bit
		hold("a bit of Epoch", keys, a)
		hold("a bit of Kind", keys, b)
		hold("a bit of Gen", keys, c)
	}
	for bit := range 256 {
		at, mask := bit/8, byte(1)<<(bit%8)
		a, b, c, key := root, root, root, keys
		a.Prev[at] ^= mask
		b.Hash[at] ^= mask
		c.Link[at] ^= mask
		key.Sign[at] ^= mask
		hold("a bit of Prev", keys, a)
		hold("a bit of Hash", keys, b)
		hold("a bit of Link", keys, c)
		hold("a bit of the key", key, root)
	}
	for bit := range 512 {
		other := root
		other.Sig[bit/8] ^= 1 << (bit % 8)
		hold("a bit of Sig", keys, other)
	}
	if told[api.OK] != 0 || told[api.ErrArg] != 64 || told[api.ErrForm] == 0 || told[api.ErrSig] == 0 {
		t.Errorf("turned roots are answered %v", told)
	}
}

// Only the signing seed signs, and only RootBytes.
func TestRootsSignedOtherwise(t *testing.T) {
	secret, root := [32]byte{1}, api.Root{Epoch: 1, Kind: 1, Gen: 1}
	keys := keyring.Public(secret, 1)
	text := plainRootBytes(root)
	for _, c := range []struct {
		what string
		sig  [64]byte
		want api.Errno
	}{
		{"by the signing seed", eddsa.Sign(keyring.SignSeed(secret), text), api.OK},
		{"by the secret itself", eddsa.Sign(secret, text), api.ErrSig},
		{"by the VRF seed", eddsa.Sign(keyring.VrfSeed(secret), text), api.ErrSig},
		{"a byte more", eddsa.Sign(keyring.SignSeed(secret), append(text, 0)), api.ErrSig},
		{"another word", eddsa.Sign(keyring.SignSeed(secret), written([]byte("cert"), text)), api.ErrSig},
		{"a certificate's", keyring.Certify(secret, keyring.Public([32]byte{2}, 2), 1).Sig, api.ErrSig},
	} {
		root.Sig = c.sig
		expectRoot(t, c.what, keys, root, c.want)
	}
}

func FuzzCheckRoot(f *testing.F) {
	f.Add([]byte{1}, uint64(0), uint64(0), uint64(0), []byte{}, []byte{})
	f.Add([]byte{}, uint64(5), uint64(1), uint64(2), []byte{1}, []byte{2})
	f.Fuzz(func(t *testing.T, secret []byte, epoch, gen, asked uint64, hash, sig []byte) {
		var s [32]byte
		copy(s[:], secret)
		root := api.Root{Epoch: epoch, Gen: gen}
		copy(root.Hash[:], hash)
		root = keyring.SignRoot(s, root)
		keys := keyring.Public(s, asked)
		expectRoot(t, "signed", keys, root, plainCheckRoot(keys, root))
		copy(root.Sig[:], sig)
		expectRoot(t, "changed", keys, root, plainCheckRoot(keys, root))
		keys.Sign = s
		expectRoot(t, "any key", keys, root, plainCheckRoot(keys, root))
	})
}
