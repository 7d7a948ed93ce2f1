package sha2_test

import (
	"bytes"
	"crypto/sha256"
	"testing"

	"beacon/sha2"
)

// check holds h against all that was written to it so far; it asks twice, as asking changes nothing.
func check(t *testing.T, what string, h *sha2.Hash, written []byte) {
	t.Helper()
	for range 2 {
		if got, want := h.Sum(), sha256.Sum256(written); got != want {
			t.Fatalf("%s: Sum behind %d bytes: %x, want %x", what, len(written), got, want)
		}
		if got := h.Len(); got != uint64(len(written)) {
			t.Fatalf("%s: Len %d, want %d", what, got, len(written))
		}
	}
}

// P1.2: a new Hash has taken nothing.
func TestNewHash(t *testing.T) {
	h := sha2.New()
	check(t, "new", h, nil)
	h.Write(nil)
	h.Write([]byte{})
	check(t, "new, with empty pieces", h, nil)
}

func TestPiecesOfEverySize(t *testing.T) {
	m := message(400)
	for size := 1; size <= 200; size++ {
		h := sha2.New()
		for at := 0; at < len(m); at += size {
			end := min(at+size, len(m))
			h.Write(m[at:end])
			check(t, "even pieces", h, m[:end])
		}
	}
}

// Two cuts anywhere in a message of a little more than two blocks: what is held, filled up and left over in every way.
func TestTwoCutsAnywhere(t *testing.T) {
	m := message(140)
	want := sha256.Sum256(m)
	for i := 0; i <= len(m); i++ {
		for j := i; j <= len(m); j++ {
			h := sha2.New()
			h.Write(m[:i])
			h.Write(m[i:j])
			h.Write(m[j:])
			if got := h.Sum(); got != want || h.Len() != uint64(len(m)) {
				t.Fatalf("cut at %d and %d: %x, %d bytes", i, j, got, h.Len())
			}
		}
	}
}

func TestUnevenAndEmptyPieces(t *testing.T) {
	sizes := []int{0, 1, 0, 54, 1, 7, 0, 1, 64, 0, 63, 1, 65, 128, 0, 127, 129, 3, 61, 192, 0, 1000, 24, 0}
	all := 0
	for _, n := range sizes {
		all += n
	}
	for turn := range sizes { // each size comes behind each number of held bytes that the turns give
		m := message(all)
		h := sha2.New()
		at := 0
		for i := range sizes {
			n := sizes[(i+turn)%len(sizes)]
			h.Write(m[at : at+n])
			at += n
			check(t, "uneven pieces", h, m[:at])
		}
	}
}

// Sum changes nothing: a Hash that is asked behind each byte goes on as one that is never asked.
func TestSumBetweenWrites(t *testing.T) {
	m := message(300)
	asked, left := sha2.New(), sha2.New()
	for i := range m {
		asked.Write(m[i : i+1])
		asked.Sum()
		left.Write(m[i : i+1])
	}
	if asked.Sum() != left.Sum() || asked.Len() != left.Len() {
		t.Error("Sum changed the Hash")
	}
	check(t, "asked", asked, m)
}

// A Copy and the one it was copied from go on each by itself, at whatever place of a block.
func TestCopyGoesOnApart(t *testing.T) {
	m := message(200)
	for n := range len(m) {
		h := sha2.New()
		h.Write(m[:n])
		c := h.Copy()
		if c == nil || c == h {
			t.Fatalf("Copy behind %d bytes is no other Hash", n)
		}
		check(t, "copy", c, m[:n])
		for _, more := range [][]byte{{1}, message(63), message(64), message(129)} {
			one, other := h.Copy(), c.Copy()
			one.Write(more)
			check(t, "other beside a written one", other, m[:n])
			other.Write([]byte("other"))
			other.Write(more)
			check(t, "one", one, append(bytes.Clone(m[:n]), more...))
			check(t, "other", other, append(append(bytes.Clone(m[:n]), "other"...), more...))
		}
		h.Write([]byte("first"))
		check(t, "copy beside a written one", c, m[:n])
		check(t, "first", h, append(bytes.Clone(m[:n]), "first"...))
	}
}

// R2: Hashes never influence one another, however their writes are mixed.
func TestHashesStandApart(t *testing.T) {
	const many = 5
	var hashes [many]*sha2.Hash
	var written [many][]byte
	for i := range hashes {
		hashes[i] = sha2.New()
	}
	for step := range 400 {
		i := step * 7 % many
		piece := message(step * 13 % 90)
		hashes[i].Write(piece)
		written[i] = append(written[i], piece...)
		sha2.Sum256(piece)
		sha2.MAC(piece, piece)
		sha2.New().Write(piece)
		for j := range hashes {
			check(t, "mixed", hashes[j], written[j])
		}
	}
}

// R1: what a nil Hash answers.
func TestNilHash(t *testing.T) {
	var h *sha2.Hash
	for _, b := range [][]byte{nil, {}, {1}, message(64), message(200)} {
		h.Write(b)
		if h.Sum() != [32]byte{} || h.Len() != 0 || h.Copy() != nil {
			t.Errorf("a nil Hash answers %x, %d, %v", h.Sum(), h.Len(), h.Copy())
		}
	}
}

// R1: what the zero Hash answers is free, but it ends and doesn't panic.
func TestZeroHashEnds(t *testing.T) {
	var h sha2.Hash
	for n := range 200 {
		h.Write(message(n))
		h.Sum()
		h.Len()
		h.Copy().Write(message(n))
	}
}

// R3: what is written is left as it is, its spare room too, and not kept.
func TestWriteLeavesAndKeepsNothing(t *testing.T) {
	for n := range 200 {
		for _, ahead := range []int{0, 1, 55, 63} {
			h := sha2.New()
			h.Write(message(ahead))
			room := message(n + 200)
			before := bytes.Clone(room)
			h.Write(room[:n])
			h.Sum()
			c := h.Copy()
			if !bytes.Equal(room, before) {
				t.Fatalf("%d bytes behind %d: an argument or its spare room was changed", n, ahead)
			}
			for i := range room {
				room[i] = ^room[i]
			}
			all := append(message(ahead), before[:n]...)
			check(t, "changed afterwards", h, all)
			check(t, "copy, changed afterwards", c, all)
			h.Write(before[:70])
			check(t, "written on", h, append(bytes.Clone(all), before[:70]...))
		}
	}
}

// An answer is the caller's own: changed, it changes no later answer.
func TestAnswersAreApart(t *testing.T) {
	h := sha2.New()
	h.Write([]byte("abc"))
	sum := h.Sum()
	sum[0] ^= 255
	check(t, "answer changed", h, []byte("abc"))
}

func FuzzPieces(f *testing.F) {
	f.Add([]byte("abc"), uint8(1), uint8(2))
	f.Add(message(200), uint8(64), uint8(63))
	f.Add(message(130), uint8(0), uint8(128))
	f.Fuzz(func(t *testing.T, m []byte, first, second uint8) {
		i := min(int(first), len(m))
		j := min(i+int(second), len(m))
		h := sha2.New()
		h.Write(m[:i])
		c := h.Copy()
		h.Write(m[i:j])
		h.Write(m[j:])
		check(t, "fuzz", h, m)
		c.Write(m[j:])
		check(t, "fuzz copy", c, append(bytes.Clone(m[:i]), m[j:]...))
	})
}
