package keyring_test

import (
	"slices"
	"sync"
	"testing"

	"beacon/api"
	"beacon/keyring"
)

// Rule R3: what is handed in is left as it is, its spare room too, and not kept; an
// answer is new memory, its spare room too. Rule R2: an answer hangs on arguments alone.

func TestCertificatesStay(t *testing.T) {
	first, certs := links(4)
	for n := range len(certs) + 1 {
		for _, broken := range []bool{false, true} {
			whole := append(slices.Clone(certs[:n]), slices.Repeat([]api.Cert{{Epoch: 0xaa}}, 20)...)
			if broken && n > 0 {
				whole[n-1].Sig[5]++
			}
			was := slices.Clone(whole)
			want := api.OK
			if broken && n > 0 {
				want = api.ErrSig
			}
			expectChain(t, "with room", first, whole[:n], want)
			expectChain(t, "without room", first, whole[:n:n], want)
			keyring.At(first, whole[:n], 3)
			if !slices.Equal(whole, was) {
				t.Fatalf("%d certificates, or their room, are changed", n)
			}
		}
	}
}

func TestChainIsNewMemory(t *testing.T) {
	first, certs := links(3)
	one, _ := keyring.Chain(first, certs)
	two, _ := keyring.Chain(first, certs)
	was := slices.Clone(certs)
	one = one[:cap(one)]
	for i := range one {
		one[i] = api.Keys{Gen: 99}
	}
	want, _ := plainChain(first, was)
	if !slices.Equal(two, want) || !slices.Equal(certs, was) {
		t.Error("an answer shares memory with another one, or with the certificates")
	}
	for i := range certs {
		certs[i] = api.Cert{}
	}
	if !slices.Equal(two, want) {
		t.Error("an answer changes with the certificates")
	}
	expectChain(t, "the same again", first, was, api.OK)
	expectChain(t, "certificates of noughts", first, certs, api.ErrArg)
}

func TestManyAtOnce(t *testing.T) {
	first, certs := links(4)
	root := keyring.SignRoot([32]byte{}, api.Root{Epoch: 1})
	var group sync.WaitGroup
	for i := range 16 {
		group.Go(func() {
			n := i % 5
			expectChain(t, "at once", first, certs[:n], api.OK)
			expectAt(t, "at once", first, certs[:n], 100, plainPublic([32]byte{byte(n)}, uint64(n)))
			expectRoot(t, "at once", first, root, api.OK)
			expectRoot(t, "at once", plainPublic(filled(byte(i+1)), 0), root, api.ErrSig)
		})
	}
	group.Wait()
}
