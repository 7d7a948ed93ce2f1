package label_test

import (
	"bytes"
	"crypto/sha256"
	"encoding/binary"
	"encoding/hex"
	"math"
	"math/rand"
	"slices"
	"strings"
	"testing"

	"beacon/api"
	"beacon/eddsa"
	"beacon/label"
	"beacon/vrf"
)

// A second, plain reading of the chapter: bytes and hashes by Go's own library,
// outputs by layer 6.

const ofAccounts = "abcdefghijklmnopqrstuvwxyz0123456789._-"

// asked is what a label is made of.
type asked struct {
	account string
	version uint64
	stale   bool
}

// written is a list's bytes.
func written(list ...[]byte) []byte {
	b := binary.BigEndian.AppendUint32(nil, uint32(len(list)))
	for _, m := range list {
		b = binary.BigEndian.AppendUint32(b, uint32(len(m)))
		b = append(b, m...)
	}
	return b
}

func plainInput(a asked) ([]byte, api.Errno) {
	if len(a.account) == 0 || len(a.account) > 32 || a.version == 0 {
		return nil, api.ErrArg
	}
	for i := range len(a.account) {
		if strings.IndexByte(ofAccounts, a.account[i]) < 0 {
			return nil, api.ErrArg
		}
	}
	last := []byte{0}
	if a.stale {
		last[0] = 1
	}
	return written([]byte("label"), []byte(a.account), binary.BigEndian.AppendUint64(nil, a.version), last), api.OK
}

func plainMake(seed [32]byte, a asked) (label [32]byte, proof [80]byte, e api.Errno) {
	input, e := plainInput(a)
	if e != api.OK {
		return label, proof, e
	}
	if proof, e = vrf.Prove(seed, input); e != api.OK {
		return label, [80]byte{}, e
	}
	label, e = plainCheck(eddsa.Public(seed), a, proof)
	return label, proof, e
}

func plainCheck(public [32]byte, a asked, proof [80]byte) (label [32]byte, e api.Errno) {
	input, e := plainInput(a)
	if e != api.OK {
		return label, e
	}
	output, e := vrf.Verify(public, input, proof)
	copy(label[:], output[:])
	return label, e
}

func plainValue(devices [][32]byte) ([32]byte, api.Errno) {
	if len(devices) > 8 {
		return [32]byte{}, api.ErrArg
	}
	var all []byte
	for i, d := range devices {
		if i > 0 && hex.EncodeToString(devices[i-1][:]) >= hex.EncodeToString(d[:]) {
			return [32]byte{}, api.ErrArg
		}
		all = append(all, d[:]...)
	}
	return sha256.Sum256(written([]byte("devices"), all)), api.OK
}

// Calls, held against what is wanted.

func expectInput(t *testing.T, a asked, want []byte, wantErr api.Errno) {
	t.Helper()
	if got, e := label.Input(a.account, a.version, a.stale); !bytes.Equal(got, want) || e != wantErr {
		t.Errorf("Input(%+v): %q, %v; want %q, %v", a, got, e, want, wantErr)
	}
}

func expectMake(t *testing.T, seed [32]byte, a asked, want [32]byte, wantProof [80]byte, wantErr api.Errno) {
	t.Helper()
	got, proof, e := label.Make(seed, a.account, a.version, a.stale)
	if got != want || proof != wantProof || e != wantErr {
		t.Errorf("Make(%x, %+v): %x, %x, %v; want %x, %x, %v", seed, a, got, proof, e, want, wantProof, wantErr)
	}
}

func expectCheck(t *testing.T, what string, public [32]byte, a asked, proof [80]byte, want [32]byte, wantErr api.Errno) {
	t.Helper()
	if got, e := label.Check(public, a.account, a.version, a.stale, proof); got != want || e != wantErr {
		t.Errorf("%s: Check(%x, %+v, %x): %x, %v; want %x, %v", what, public, a, proof, got, e, want, wantErr)
	}
}

// refuse: Check answers the error and 32 noughts.
func refuse(t *testing.T, what string, public [32]byte, a asked, proof [80]byte, want api.Errno) {
	t.Helper()
	expectCheck(t, what, public, a, proof, [32]byte{}, want)
}

func expectValue(t *testing.T, what string, devices [][32]byte) {
	t.Helper()
	want, wantErr := plainValue(devices)
	if got, e := label.Value(devices); got != want || e != wantErr {
		t.Errorf("%s: Value(%x): %x, %v; want %x, %v", what, devices, got, e, want, wantErr)
	}
}

// made is Make of what can be made.
func made(t *testing.T, seed [32]byte, a asked) (public, l [32]byte, proof [80]byte) {
	t.Helper()
	l, proof, e := label.Make(seed, a.account, a.version, a.stale)
	if e != api.OK {
		t.Fatalf("Make(%x, %+v): %v", seed, a, e)
	}
	return eddsa.Public(seed), l, proof
}

// What is asked.

func accounts() []string {
	out := []string{"a", "z", "0", "9", ".", "_", "-", "..", "aa", "a.b-c_9", "label", "stale", "devices", ofAccounts[:32], ofAccounts[7:]}
	for n := 1; n <= 32; n++ {
		out = append(out, strings.Repeat("m", n))
	}
	return out
}

func noAccounts() []string {
	return []string{
		"", "A", "aB", "a b", " a", "a ", "a\n", "a/b", "a:b", "a,b", "a`", "{a", "a@b", "\x00", "a\x00", "\x00a", "a\x7f",
		"é", "aé", "ａ", "\xff", "a\x80", "\xc1\xa1", "\ufeffa", strings.Repeat("a", 33), strings.Repeat("é", 16), strings.Repeat("a", 1<<20),
	}
}

func versions() []uint64 {
	out := []uint64{1, 2, 3, 255, 256, 257, 258, 1<<63 - 1, 1 << 63, math.MaxUint64 - 1, math.MaxUint64}
	for bit := range 64 {
		out = append(out, 1<<bit)
	}
	return out
}

// asks are accounts with one version and one account with versions, fresh and
// stale, no two the same.
func asks() []asked {
	var all, out []asked
	for _, stale := range []bool{false, true} {
		for _, name := range accounts() {
			all = append(all, asked{name, 1, stale})
		}
		for _, v := range versions() {
			all = append(all, asked{"m", v, stale})
		}
	}
	for _, a := range all {
		if !slices.Contains(out, a) {
			out = append(out, a)
		}
	}
	return out
}

func drawn(r *rand.Rand, n int) []byte {
	b := make([]byte, n)
	r.Read(b)
	return b
}

func drawnAccount(r *rand.Rand) string {
	b := make([]byte, 1+r.Intn(32))
	for i := range b {
		b[i] = ofAccounts[r.Intn(len(ofAccounts))]
	}
	return string(b)
}

func drawnAsk(r *rand.Rand) asked {
	return asked{drawnAccount(r), 1 + r.Uint64()>>1>>r.Intn(63), r.Intn(2) == 0}
}

func filled(b byte) [32]byte { return [32]byte(bytes.Repeat([]byte{b}, 32)) }

func unhex(t *testing.T, s string) []byte {
	t.Helper()
	b, err := hex.DecodeString(s)
	if err != nil {
		t.Fatal(err)
	}
	return b
}
