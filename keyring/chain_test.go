package keyring_test

import (
	"math"
	"math/rand"
	"slices"
	"testing"

	"beacon/api"
	"beacon/keyring"
)

// P14.3: chains of certificates.

func TestChainsOfEachLength(t *testing.T) {
	first, certs := links(12)
	for n := range len(certs) + 1 {
		expectChain(t, "whole", first, certs[:n], api.OK)
		got, e := keyring.Chain(first, certs[:n])
		if len(got) != n+1 || e != api.OK {
			t.Fatalf("%d certificates: %d keys, %v", n, len(got), e)
		}
		for i, k := range got {
			if k != plainPublic([32]byte{byte(i)}, uint64(i)) {
				t.Errorf("%d certificates, generation %d: %x", n, i, k)
			}
		}
	}
	expectChain(t, "nil", first, nil, api.OK)
	expectChain(t, "empty", first, []api.Cert{}, api.OK)
}

// Nothing is asked of the first keys where there is no certificate.
func TestChainOfFirstKeysAlone(t *testing.T) {
	expectChain(t, "noughts", api.Keys{}, nil, api.OK)
	for _, key := range wrongKeys(t) {
		first := api.Keys{Gen: 9, Sign: key, Vrf: key}
		expectChain(t, "no key", first, nil, api.OK)
		expectChain(t, "no key", first, []api.Cert{keyring.Certify([32]byte{1}, keyring.Public([32]byte{2}, 10), 5)}, api.ErrForm)
	}
}

// A chain may begin at any generation, and ends at the greatest number.
func TestChainsFromAnyGeneration(t *testing.T) {
	one, two, three := [32]byte{1}, [32]byte{2}, [32]byte{3}
	for _, gen := range numbers() {
		certs := []api.Cert{
			keyring.Certify(one, keyring.Public(two, gen+1), 5),
			keyring.Certify(two, keyring.Public(three, gen+2), 6),
		}
		want := api.OK
		if gen >= math.MaxUint64-1 {
			want = api.ErrArg
		}
		expectChain(t, "from a generation on", keyring.Public(one, gen), certs, want)
	}
	most := keyring.Public(one, math.MaxUint64-1)
	expectChain(t, "to the greatest", most, []api.Cert{keyring.Certify(one, keyring.Public(two, math.MaxUint64), 5)}, api.OK)
}

func TestEpochsRise(t *testing.T) {
	one, two, three := [32]byte{1}, [32]byte{2}, [32]byte{3}
	first := keyring.Public(one, 0)
	for _, a := range numbers() {
		certs := []api.Cert{keyring.Certify(one, keyring.Public(two, 1), a)}
		want := api.OK
		if a == 0 {
			want = api.ErrArg
		}
		expectChain(t, "the first", first, certs, want)
		for _, b := range numbers() {
			want := api.OK
			if a == 0 || b <= a {
				want = api.ErrArg
			}
			expectChain(t, "two", first, append(certs[:1:1], keyring.Certify(two, keyring.Public(three, 2), b)), want)
		}
	}
}

// An epoch is held against the certificate ahead, wherever it stands.
func TestOneEpochThatDoesNotRise(t *testing.T) {
	first, certs := links(6)
	for at := range certs {
		ahead := uint64(0)
		if at > 0 {
			ahead = certs[at-1].Epoch
		}
		for _, epoch := range []uint64{0, ahead / 2, ahead, ahead + 1, math.MaxUint64} {
			other := slices.Clone(certs)
			other[at] = keyring.Certify([32]byte{byte(at)}, certs[at].Keys, epoch)
			want := api.OK
			if epoch <= ahead || epoch == math.MaxUint64 && at+1 < len(certs) {
				want = api.ErrArg
			}
			expectChain(t, "one epoch", first, other, want)
		}
	}
}

// Each certificate is asked for its epoch, then by CheckCert, then comes the next.
func TestChainAsksInOrder(t *testing.T) {
	first, certs := links(4)
	unsigned, small, early, far := [4]api.Cert(certs), [4]api.Cert(certs), [4]api.Cert(certs), [4]api.Cert(certs)
	for i := range certs {
		unsigned[i].Sig = [64]byte{}
		small[i].Keys.Vrf = [32]byte{1}
		early[i].Epoch = 0
		far[i].Keys.Gen = 99
	}
	kinds := []struct {
		certs [4]api.Cert
		want  api.Errno
	}{{unsigned, api.ErrSig}, {small, api.ErrForm}, {early, api.ErrArg}, {far, api.ErrArg}}
	for at := range certs {
		for _, one := range kinds {
			other := slices.Clone(certs)
			other[at] = one.certs[at]
			expectChain(t, "one", first, other, one.want)
			for next := at + 1; next < len(certs); next++ {
				for _, two := range kinds {
					other[next] = two.certs[next]
					expectChain(t, "one, and another behind it", first, other, one.want)
				}
				other[next] = certs[next]
			}
			other[at].Epoch = 0
			expectChain(t, "and no epoch", first, other, api.ErrArg)
		}
	}
}

// Certificates of one chain, swapped, left out, told twice or of another's.
func TestChainsThatAreBroken(t *testing.T) {
	first, certs := links(5)
	for at := range certs {
		if at+1 < len(certs) {
			expectChain(t, "left out", first, slices.Delete(slices.Clone(certs), at, at+1), api.ErrArg)
			other := slices.Clone(certs)
			other[at], other[at+1] = other[at+1], other[at]
			expectChain(t, "swapped", first, other, api.ErrArg)
		}
		expectChain(t, "twice", first, slices.Insert(slices.Clone(certs), at, certs[at]), api.ErrArg)
		other := slices.Clone(certs)
		other[at] = keyring.Certify([32]byte{99}, certs[at].Keys, certs[at].Epoch)
		expectChain(t, "another's", first, other, api.ErrSig)
		other[at] = keyring.Certify([32]byte{byte(at)}, keyring.Public([32]byte{99}, uint64(at)+1), certs[at].Epoch)
		want := api.ErrSig
		if at+1 == len(certs) {
			want = api.OK
		}
		expectChain(t, "to another", first, other, want)
		// The first secret signs no generation but the one behind it.
		other[at] = keyring.Certify([32]byte{}, certs[at].Keys, certs[at].Epoch)
		want = api.ErrSig
		if at == 0 {
			want = api.OK
		}
		expectChain(t, "by the first", first, other, want)
	}
	expectChain(t, "another's first keys", keyring.Public([32]byte{99}, 0), certs, api.ErrSig)
	expectChain(t, "first keys of another generation", keyring.Public([32]byte{}, 1), certs, api.ErrArg)
}

func TestDrawnChains(t *testing.T) {
	r := rand.New(rand.NewSource(4))
	told := map[api.Errno]int{}
	for range 400 {
		first, certs := links(r.Intn(5))
		for i := range certs {
			switch r.Intn(14) {
			case 0:
				certs[i].Epoch = uint64(r.Intn(12))
			case 1:
				certs[i].Keys.Gen = uint64(r.Intn(4))
			case 2:
				certs[i].Keys.Sign = drawn(r)
			case 3:
				certs[i].Sig[r.Intn(64)]++
			case 4:
				certs[i] = keyring.Certify([32]byte{byte(i)}, keyring.Public(drawn(r), uint64(i)+1), certs[i].Epoch+uint64(r.Intn(9)))
			}
		}
		_, want := plainChain(first, certs)
		told[want]++
		expectChain(t, "drawn", first, certs, want)
		epoch := uint64(r.Intn(20))
		expectAt(t, "drawn", first, certs, epoch, plainAt(first, certs, epoch))
	}
	for _, e := range []api.Errno{api.OK, api.ErrArg, api.ErrForm, api.ErrSig} {
		if told[e] < 10 {
			t.Errorf("drawn chains are answered %v", told)
		}
	}
}

// At.

func TestAtOfAWholeChain(t *testing.T) {
	first, certs := links(6)
	keys, _ := keyring.Chain(first, certs)
	want := first
	for epoch := range uint64(30) {
		if i := slices.IndexFunc(certs, func(c api.Cert) bool { return c.Epoch == epoch }); i >= 0 {
			want = keys[i+1]
		}
		expectAt(t, "each epoch", first, certs, epoch, want)
	}
	expectAt(t, "the greatest epoch", first, certs, math.MaxUint64, keys[6])
	for _, epoch := range numbers() {
		expectAt(t, "no certificates", first, nil, epoch, first)
		expectAt(t, "no certificates", first, []api.Cert{}, epoch, first)
	}
}

func TestAtEdges(t *testing.T) {
	first, a, b := api.Keys{Gen: 10}, api.Keys{Gen: 11}, api.Keys{Gen: 12}
	fromFive := []api.Cert{{Keys: a, Epoch: 5}}
	expectAt(t, "ahead", first, fromFive, 4, first)
	expectAt(t, "at it", first, fromFive, 5, a)
	expectAt(t, "behind", first, fromFive, 6, a)
	ends := []api.Cert{{Keys: a, Epoch: 0}, {Keys: b, Epoch: math.MaxUint64}}
	expectAt(t, "from 0 on", first, ends, 0, a)
	expectAt(t, "ahead of the greatest", first, ends, math.MaxUint64-1, a)
	expectAt(t, "the greatest", first, ends, math.MaxUint64, b)
	high := []api.Cert{{Keys: a, Epoch: 1 << 63}}
	expectAt(t, "below the highest bit", first, high, 1<<63-1, first)
	expectAt(t, "the highest bit", first, high, 1<<63, a)
}

// Nothing is verified, and it is the last of the list, not the one with the
// greatest Epoch or Gen.
func TestAtOfCertificatesThatDoNotHold(t *testing.T) {
	first := api.Keys{Gen: 9}
	certs := []api.Cert{
		{Keys: api.Keys{Gen: 5}, Epoch: 7}, {Keys: api.Keys{Gen: 4}, Epoch: 3}, {Keys: api.Keys{Gen: 3}, Epoch: 3}, {Keys: api.Keys{Gen: 2}, Epoch: 9},
	}
	for epoch, gen := range map[uint64]uint64{0: 9, 2: 9, 3: 3, 6: 3, 7: 3, 8: 3, 9: 2, math.MaxUint64: 2} {
		expectAt(t, "they don't rise", first, certs, epoch, api.Keys{Gen: gen})
	}
	r := rand.New(rand.NewSource(5))
	for range 2000 {
		var list []api.Cert
		for range r.Intn(8) {
			list = append(list, api.Cert{Keys: api.Keys{Gen: drawnNumber(r), Sign: drawn(r)}, Epoch: uint64(r.Intn(6))})
		}
		epoch := uint64(r.Intn(7))
		expectAt(t, "drawn", first, list, epoch, plainAt(first, list, epoch))
	}
}
