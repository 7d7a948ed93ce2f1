package sha2_test

import (
	"bytes"
	"crypto/hmac"
	"crypto/sha256"
	"crypto/sha512"
	"encoding/hex"
	"strings"
	"testing"

	"beacon/sha2"
)

// message is n bytes of which no two blocks are alike.
func message(n int) []byte {
	b := make([]byte, n)
	x := uint32(n)*2654435761 + 12345
	for i := range b {
		x = x*1664525 + 1013904223
		b[i] = byte(x >> 24)
	}
	return b
}

// lengths are all small ones, so all about the ends of the first blocks, and those about the ends of some later ones.
func lengths() []int {
	var out []int
	for n := range 400 {
		out = append(out, n)
	}
	for _, end := range []int{512, 1024, 4096, 65536} {
		for n := end - 18; n <= end+2; n++ {
			out = append(out, n)
		}
	}
	return append(out, 1<<20, 1<<20+1)
}

func realMAC(key, message []byte) []byte {
	h := hmac.New(sha256.New, key)
	h.Write(message)
	return h.Sum(nil)
}

func wantHex(t *testing.T, what string, got []byte, want string) {
	t.Helper()
	if s := hex.EncodeToString(got); s != strings.ReplaceAll(want, " ", "") {
		t.Errorf("%s: %s, want %s", what, s, want)
	}
}

// P1.1: the chapter's examples and those of FIPS 180-4.

func TestSum256Examples(t *testing.T) {
	for _, c := range []struct{ in, want string }{
		{"", "e3b0c442 98fc1c14 9afbf4c8 996fb924 27ae41e4 649b934c a495991b 7852b855"},
		{"abc", "ba7816bf 8f01cfea 414140de 5dae2223 b00361a3 96177a9c b410ff61 f20015ad"},
		{"abcdbcdecdefdefgefghfghighijhijkijkljklmklmnlmnomnopnopq", "248d6a61 d20638b8 e5c02693 0c3e6039 a33ce459 64ff2167 f6ecedd4 19db06c1"},
		{strings.Repeat("a", 1000000), "cdc76e5c 9914fb92 81a1c7e2 84d73e67 f1809a48 a497200e 046d39cc c7112cd0"},
	} {
		h := sha2.Sum256([]byte(c.in))
		wantHex(t, "Sum256", h[:], c.want)
	}
}

func TestSum512Examples(t *testing.T) {
	for _, c := range []struct{ in, want string }{
		{"", "cf83e1357eefb8bd f1542850d66d8007 d620e4050b5715dc 83f4a921d36ce9ce 47d0d13c5d85f2b0 ff8318d2877eec2f 63b931bd47417a81 a538327af927da3e"},
		{"abc", "ddaf35a193617aba cc417349ae204131 12e6fa4e89a97ea2 0a9eeee64b55d39a 2192992a274fc1a8 36ba3c23a3feebbd 454d4423643ce80e 2a9ac94fa54ca49f"},
		{"abcdefghbcdefghicdefghijdefghijkefghijklfghijklmghijklmnhijklmnoijklmnopjklmnopqklmnopqrlmnopqrsmnopqrstnopqrstu", "8e959b75dae313da 8cf4f72814fc143f 8f7779c6eb9f7fa1 7299aeadb6889018 501d289e4900f7e4 331b99dec4b5433a c7d329eeb6dd2654 5e96e55b874be909"},
		{strings.Repeat("a", 1000000), "e718483d0ce76964 4e2e42c7bc15b463 8e1f98b13b204428 5632a803afa973eb de0ff244877ea60a 4cb0432ce577c31b eb009c5c2c49aa2e 4eadb217ad8cc09b"},
	} {
		h := sha2.Sum512([]byte(c.in))
		wantHex(t, "Sum512", h[:], c.want)
	}
}

// The chapter's example and those of RFC 4231.
func TestMACExamples(t *testing.T) {
	for _, c := range []struct {
		key           []byte
		message, want string
	}{
		{[]byte("key"), "The quick brown fox jumps over the lazy dog", "f7bc83f4 30538424 b13298e6 aa6fb143 ef4d59a1 49461759 97479dbc 2d1a3cd8"},
		{bytes.Repeat([]byte{0x0b}, 20), "Hi There", "b0344c61d8db38535ca8afceaf0bf12b881dc200c9833da726e9376c2e32cff7"},
		{[]byte("Jefe"), "what do ya want for nothing?", "5bdcc146bf60754e6a042426089575c75a003f089d2739839dec58b964ec3843"},
		{bytes.Repeat([]byte{0xaa}, 20), strings.Repeat("\xdd", 50), "773ea91e36800e46854db8ebd09181a72959098b3ef8c122d9635514ced565fe"},
		{bytes.Repeat([]byte{0xaa}, 131), "Test Using Larger Than Block-Size Key - Hash Key First", "60e431591ee0b67f0d8a26aacbf5b77f8e0bc6213728c5140546040f0ee37f54"},
		{bytes.Repeat([]byte{0xaa}, 131), "This is a test using a larger than block-size key and a larger than block-size data. The key needs to be hashed before being used by the HMAC algorithm.", "9b09ffa71b942fcb27635fbcd5b0e944bfdc63644f0713938a7f51535c3a35e2"},
	} {
		h := sha2.MAC(c.key, []byte(c.message))
		wantHex(t, "MAC", h[:], c.want)
	}
}

func TestSumsAtAllLengths(t *testing.T) {
	for _, n := range lengths() {
		m := message(n)
		if got, want := sha2.Sum256(m), sha256.Sum256(m); got != want {
			t.Errorf("Sum256 of %d bytes: %x, want %x", n, got, want)
		}
		if got, want := sha2.Sum512(m), sha512.Sum512(m); got != want {
			t.Errorf("Sum512 of %d bytes: %x, want %x", n, got, want)
		}
	}
}

// Bytes of one kind only: a fault that a mixed message hides among carries shows here.
func TestSumsOfEvenMessages(t *testing.T) {
	for _, x := range []byte{0, 1, 127, 128, 255} {
		for n := range 300 {
			m := bytes.Repeat([]byte{x}, n)
			if got, want := sha2.Sum256(m), sha256.Sum256(m); got != want {
				t.Errorf("Sum256 of %d times %d: %x, want %x", n, x, got, want)
			}
			if got, want := sha2.Sum512(m), sha512.Sum512(m); got != want {
				t.Errorf("Sum512 of %d times %d: %x, want %x", n, x, got, want)
			}
		}
	}
}

// Messages of more than 2^32 bits: their number needs more than 4 bytes.
func TestSumsOfMoreThan32BitsOfBits(t *testing.T) {
	if testing.Short() {
		t.Skip("long")
	}
	m := make([]byte, 1<<29+113)
	if got, want := sha2.Sum256(m), sha256.Sum256(m); got != want {
		t.Errorf("Sum256: %x, want %x", got, want)
	}
	if got, want := sha2.Sum512(m), sha512.Sum512(m); got != want {
		t.Errorf("Sum512: %x, want %x", got, want)
	}
}

func TestMACAtAllKeyLengths(t *testing.T) {
	for k := range 200 {
		for _, n := range []int{0, 1, 31, 32, 54, 55, 56, 63, 64, 65, 119, 120, 128, 1000} {
			key, m := message(k), message(n)
			if got, want := sha2.MAC(key, m), realMAC(key, m); !bytes.Equal(got[:], want) {
				t.Errorf("MAC with a key of %d bytes over %d: %x, want %x", k, n, got, want)
			}
		}
	}
	key, m := message(65537), message(65537)
	if got, want := sha2.MAC(key, m), realMAC(key, m); !bytes.Equal(got[:], want) {
		t.Errorf("MAC with a long key: %x, want %x", got, want)
	}
}

// A key of just 64 bytes stands as it is; one of 65 is hashed first; noughts behind a key are no other key.
func TestMACKeyEdges(t *testing.T) {
	m := []byte("message")
	whole, long := message(64), message(65)
	hashedWhole, hashedLong := sha2.Sum256(whole), sha2.Sum256(long)
	if sha2.MAC(whole, m) == sha2.MAC(hashedWhole[:], m) {
		t.Error("a key of 64 bytes was hashed")
	}
	if sha2.MAC(long, m) != sha2.MAC(hashedLong[:], m) {
		t.Error("a key of 65 bytes was not hashed")
	}
	if sha2.MAC(nil, m) != sha2.MAC(make([]byte, 64), m) || sha2.MAC([]byte("k"), m) != sha2.MAC([]byte("k\x00\x00"), m) {
		t.Error("a key isn't filled up by noughts")
	}
	if sha2.MAC(nil, m) == sha2.MAC(make([]byte, 65), m) {
		t.Error("a key of 65 noughts was cut")
	}
	if sha2.MAC(long, m) == sha2.MAC(long[:64], m) {
		t.Error("a key of 65 bytes was cut")
	}
}

// R4: a list of no elements may be nil or empty.
func TestNilMeansEmpty(t *testing.T) {
	empty := []byte{}
	if sha2.Sum256(nil) != sha2.Sum256(empty) || sha2.Sum512(nil) != sha2.Sum512(empty) {
		t.Error("sums")
	}
	if sha2.MAC(nil, nil) != sha2.MAC(empty, empty) {
		t.Error("MAC")
	}
	mac := sha2.MAC(nil, nil)
	wantHex(t, "MAC of nothing", mac[:], "b613679a0814d9ec772f95d778c35fc5ff1697c493715653c6c712144292c5ad")
}

// R3: what is handed in is left as it is, its spare room too; key and message may be one slice.
func TestSumsLeaveTheirArguments(t *testing.T) {
	for n := range 300 {
		room := message(n + 300)
		before := bytes.Clone(room)
		b := room[:n]
		sum, long := sha2.Sum256(b), sha2.Sum512(b)
		mac := sha2.MAC(b, b)
		if !bytes.Equal(room, before) {
			t.Fatalf("%d bytes: an argument or its spare room was changed", n)
		}
		if sum != sha2.Sum256(b) || long != sha2.Sum512(b) || mac != sha2.MAC(b, b) {
			t.Fatalf("%d bytes: asked again, another answer", n)
		}
		if want := realMAC(b, b); !bytes.Equal(mac[:], want) {
			t.Fatalf("%d bytes: key and message in one slice: %x, want %x", n, mac, want)
		}
	}
}
