package wire_test

import (
	"bytes"
	"math"
	"math/big"
	"math/rand"
	"slices"
	"strings"
	"testing"

	"beacon/api"
	"beacon/wire"
)

// numBytes is n in 8 bytes, the greatest first.
func numBytes(n uint64) []byte {
	return new(big.Int).SetUint64(n).FillBytes(make([]byte, 8))
}

func numbers() []uint64 {
	out := []uint64{0, 1, 2, 255, 256, 257, 258, 65535, 65536, 1 << 63, 1<<63 - 1, math.MaxUint64, math.MaxUint64 - 1}
	r := rand.New(rand.NewSource(11))
	for bit := range 64 {
		out = append(out, 1<<bit, 1<<bit-1, r.Uint64()>>bit)
	}
	return out
}

func TestNumbersThereAndBack(t *testing.T) {
	if b := wire.Num(258); !bytes.Equal(b, []byte{0, 0, 0, 0, 0, 0, 1, 2}) {
		t.Errorf("Num(258): %x", b)
	}
	for _, n := range numbers() {
		want := numBytes(n)
		if got := wire.Num(n); !bytes.Equal(got, want) {
			t.Errorf("Num(%d): %x, want %x", n, got, want)
		}
		if got, e := wire.ReadNum(want); got != n || e != api.OK {
			t.Errorf("ReadNum(%x): %d, %v", want, got, e)
		}
	}
}

func TestNumbersOfOtherLengths(t *testing.T) {
	if n, e := wire.ReadNum(nil); n != 0 || e != api.ErrForm {
		t.Errorf("ReadNum(nil): %d, %v", n, e)
	}
	for size := range 30 {
		for _, fill := range []byte{0, 1, 0xff} {
			b := bytes.Repeat([]byte{fill}, size)
			n, e := wire.ReadNum(b)
			if size != 8 && (n != 0 || e != api.ErrForm) {
				t.Errorf("ReadNum(%x): %d, %v; want ErrForm", b, n, e)
			}
			if size == 8 && (!bytes.Equal(numBytes(n), b) || e != api.OK) {
				t.Errorf("ReadNum(%x): %d, %v", b, n, e)
			}
		}
	}
}

const ofAccounts = "abcdefghijklmnopqrstuvwxyz0123456789._-"

// isAccount: DOC.md's words, byte by byte.
func isAccount(name string) bool {
	for i := range len(name) {
		if strings.IndexByte(ofAccounts, name[i]) < 0 {
			return false
		}
	}
	return len(name) >= 1 && len(name) <= 32
}

func expectAccount(t *testing.T, name string, want bool) {
	t.Helper()
	if got := wire.Account(name); got != want {
		t.Errorf("Account(%q): %v", name, got)
	}
}

func TestAccountExamples(t *testing.T) {
	expectAccount(t, "a.b-c_9", true)
	expectAccount(t, "", false)
	expectAccount(t, "A", false)
	expectAccount(t, strings.Repeat("a", 33), false)
	expectAccount(t, ofAccounts[:32], true)
	expectAccount(t, ofAccounts[7:], true)
}

func TestAccountsOfOneByte(t *testing.T) {
	for x := range 256 {
		one := string([]byte{byte(x)})
		want := strings.Contains(ofAccounts, one)
		for _, name := range []string{one, "a" + one, one + "a", "ab" + one + "cd", one + one} {
			expectAccount(t, name, want)
		}
	}
}

func TestAccountsOfOneRune(t *testing.T) {
	for x := range rune(0x4000) {
		one := string(x)
		want := x < 128 && strings.Contains(ofAccounts, one)
		for _, name := range []string{one, "a" + one, one + "a"} {
			expectAccount(t, name, want)
		}
	}
	for _, x := range []rune{0xd7ff, 0xe000, 0xff41, 0xfffd, 0xffff, 0x10000, 0x1d41a, 0x10ffff} {
		expectAccount(t, string(x), false)
	}
}

// Among them are longer forms of letters, which are no UTF-8.
func TestAccountsThatAreNoText(t *testing.T) {
	for _, name := range []string{
		"\x80", "\xbf", "\xc1\xa1", "\xe0\x81\xa1", "\xf0\x80\x81\xa1", "\xed\xa0\x80", "\xf4\x90\x80\x80", "\xff",
		"a\xc3", "\xc3a", "a\xe2\x82", "a\x00", "\x00a", "a\xff\xfeb", "\xef\xbb\xbfa",
	} {
		expectAccount(t, name, false)
	}
}

func TestAccountsOfEachLength(t *testing.T) {
	for n := range 300 {
		for _, x := range []string{"a", "z", "0", "9", ".", "_", "-"} {
			expectAccount(t, strings.Repeat(x, n), n >= 1 && n <= 32)
		}
	}
	// The bytes are counted, not the runes.
	expectAccount(t, strings.Repeat("é", 16), false)
	expectAccount(t, strings.Repeat("é", 17), false)
	expectAccount(t, strings.Repeat("a", 1<<20), false)
}

func TestAccountsAtEachPlace(t *testing.T) {
	for n := 1; n <= 34; n++ {
		for at := range n {
			for _, x := range []byte{'A', ' ', '/', ':', '`', '{', ',', '^', 0, 0x7f, 0xe9} {
				name := bytes.Repeat([]byte{'m'}, n)
				name[at] = x
				expectAccount(t, string(name), false)
			}
		}
	}
}

func TestDrawnAccounts(t *testing.T) {
	r := rand.New(rand.NewSource(12))
	for range 20000 {
		name := make([]byte, r.Intn(36))
		for i := range name {
			name[i] = ofAccounts[r.Intn(len(ofAccounts))]
			if r.Intn(60) == 0 {
				name[i] = byte(r.Intn(256))
			}
		}
		expectAccount(t, string(name), isAccount(string(name)))
	}
}

// isDevices: DOC.md's words, the keys as numbers.
func isDevices(list [][32]byte) bool {
	for i := 1; i < len(list); i++ {
		a, b := new(big.Int).SetBytes(list[i-1][:]), new(big.Int).SetBytes(list[i][:])
		if a.Cmp(b) >= 0 {
			return false
		}
	}
	return len(list) <= 8
}

func expectDevices(t *testing.T, list [][32]byte, want bool) {
	t.Helper()
	if got := wire.Devices(list); got != want {
		t.Errorf("Devices(%x): %v", list, got)
	}
}

// risingAt are n keys that differ in one byte alone.
func risingAt(n, at int) [][32]byte {
	var list [][32]byte
	for i := range n {
		var d [32]byte
		for j := range d {
			d[j] = 0x80
		}
		d[at] = byte(0x7c + i) // beyond 0x7f too: as signed bytes they would fall
		list = append(list, d)
	}
	return list
}

func TestDevicesOfEachLength(t *testing.T) {
	expectDevices(t, nil, true)
	expectDevices(t, [][32]byte{}, true)
	for n := 1; n <= 20; n++ {
		for at := range 32 {
			list := risingAt(n, at)
			expectDevices(t, list, n <= 8)
			slices.Reverse(list)
			expectDevices(t, list, n == 1)
			expectDevices(t, slices.Repeat(list[:1], n), n == 1)
		}
		expectDevices(t, make([][32]byte, n), n == 1)
	}
	for x := range 256 {
		expectDevices(t, [][32]byte{{byte(x)}}, true)
		expectDevices(t, [][32]byte{{31: byte(x)}}, true)
	}
}

func TestDevicesOutOfOrder(t *testing.T) {
	for n := 2; n <= 8; n++ {
		for at := range n - 1 {
			for _, place := range []int{0, 1, 15, 16, 30, 31} {
				list := risingAt(n, place)
				list[at+1] = list[at]
				expectDevices(t, list, false)
				list = risingAt(n, place)
				list[at], list[at+1] = list[at+1], list[at]
				expectDevices(t, list, false)
			}
		}
	}
}

func TestDevicesByTheFirstByteThatDiffers(t *testing.T) {
	for at := range 31 {
		var less, more [32]byte
		less[at], more[at] = 1, 2
		for i := at + 1; i < 32; i++ {
			less[i] = 0xff
		}
		expectDevices(t, [][32]byte{less, more}, true)
		expectDevices(t, [][32]byte{more, less}, false)
	}
	full := [32]byte(bytes.Repeat([]byte{0xff}, 32))
	expectDevices(t, [][32]byte{{}, full}, true)
	expectDevices(t, [][32]byte{full, {}}, false)
	expectDevices(t, [][32]byte{{31: 1}, {0: 1}}, true)
	expectDevices(t, [][32]byte{{0: 1}, {31: 1}}, false)
}

func TestDrawnDevices(t *testing.T) {
	r := rand.New(rand.NewSource(13))
	for range 20000 {
		list := make([][32]byte, r.Intn(11))
		for i := range list {
			list[i][r.Intn(32)], list[i][31] = byte(r.Intn(256)), byte(r.Intn(3))
		}
		expectDevices(t, list, isDevices(list))
		slices.SortFunc(list, func(a, b [32]byte) int { return bytes.Compare(a[:], b[:]) })
		expectDevices(t, list, isDevices(list))
	}
}
