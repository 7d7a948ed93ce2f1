package wal_test

import (
	"bytes"
	"math/rand"
	"strings"
	"testing"

	"beacon/api"
	"beacon/disk"
)

// marks are the sectors that the log has filled on a disk of this image.
func marks(image string) (out []string) {
	for at := 0; at < len(image); at += 64 {
		if s := image[at : at+64]; strings.Trim(s, "\x00") != "" {
			out = append(out, s)
		}
	}
	return out
}

// Records are made of the very sectors that the log has laid elsewhere, whole
// frames among them, and lie where the log looks for its own frames afterwards.
func TestRecordsOfTheLogsOwnMarks(t *testing.T) {
	for _, start := range starts(t) {
		for _, mark := range marks(start) {
			d := made(t, 64)
			l := opened(t, d)
			var want [][]byte
			for _, r := range texts(mark, mark[:32], mark[32:], mark+mark+mark, start[:640]) {
				expect(t, "Append", l.Append(r), api.OK)
				want = append(want, r)
				expectKept(t, d, l, want)
				if taken(want) > room(64)/2 {
					expect(t, "Checkpoint", l.Checkpoint(want[:1]), api.OK)
					want = want[:1]
					expectKept(t, d, l, want)
				}
			}
		}
	}
}

// A twin log on another disk tells what bytes the next frame would have. They are
// laid as a record, over and over, so that they stand where that frame would stand
// when two more checkpoints have gone by: the log ends ahead of them all the same.
func TestRecordsThatForeseeTheNextFrame(t *testing.T) {
	for _, last := range []step{appending("none", nil), appending("b", []byte("b")), appending("ABCD", patch("ABCD"))} {
		for _, list := range [][][]byte{nil, texts("a"), texts("a", "b"), {patch("QRSTU")}} {
			tail := []step{checkpointing("none"), checkpointing("list", list...)}
			for _, first := range []step{appending("x", []byte("x")), checkpointing("x", []byte("x"))} {
				twin := laid(t, 64, append([]step{first, first, last}, append(tail, last, last)...)...)
				for _, mark := range marks(twin) {
					foreseen := []byte(strings.Repeat(mark, 16))
					for _, lay := range []step{appending("foreseen", foreseen), checkpointing("foreseen", foreseen)} {
						for shift := range 3 {
							foreseeing(t, lay, first, tail, shift, list)
						}
					}
				}
			}
		}
	}
}

func foreseeing(t *testing.T, lay, first step, tail []step, shift int, want [][]byte) {
	t.Helper()
	steps := append([]step{first, first, first}[shift:], lay)
	d := diskOf(t, laid(t, 64, append(steps, tail...)...))
	expectKept(t, d, opened(t, d), want)
	l := opened(t, d)
	for _, s := range tail {
		expect(t, s.name, s.call(l), api.OK)
	}
	expectKept(t, d, l, want)
}

// expectWorks: whatever the disk holds, the log that is opened there is one.
func expectWorks(t *testing.T, d *disk.Disk) {
	t.Helper()
	l := opened(t, d)
	want := l.Records()
	expectKept(t, d, l, want)
	for _, x := range []step{
		appending("a", []byte("a")), appending("none", nil), checkpointing("b", []byte("b")), appending("c", patch("CDE")),
		checkpointing("none"), appending("d", []byte("d")), checkpointing("e", patch("EE")), appending("f", []byte("f")),
	} {
		e := x.call(l)
		if e == api.ErrFull && taken(x.leave(want)) > room(d.Sectors()) {
			continue
		}
		expect(t, x.name, e, api.OK)
		want = x.leave(want)
		expectKept(t, d, l, want)
	}
}

func filledWith(t *testing.T, sectors int, each func(sector int) [64]byte) *disk.Disk {
	t.Helper()
	d := made(t, sectors)
	for s := range sectors {
		d.Write(s, each(s))
	}
	d.Sync()
	return d
}

func TestBytesThatNoLogHasWritten(t *testing.T) {
	r := rand.New(rand.NewSource(103))
	for _, n := range []int{64, 65, 128, 1001} {
		for _, b := range []byte{1, 2, 127, 128, 255} {
			d := filledWith(t, n, func(int) [64]byte { return [64]byte(bytes.Repeat([]byte{b}, 64)) })
			expectRecords(t, opened(t, d), nil)
			expectWorks(t, d)
		}
		for range 50 {
			d := filledWith(t, n, func(int) [64]byte { return [64]byte(drawn(r, 64)) })
			expectRecords(t, opened(t, d), nil)
			expectWorks(t, d)
			// Of these sectors each byte is small, so that what is read as a size is one.
			d = filledWith(t, n, func(int) (out [64]byte) {
				for range r.Intn(4) {
					out[r.Intn(64)] = byte(r.Intn(4))
				}
				return out
			})
			expectRecords(t, opened(t, d), nil)
			expectWorks(t, d)
		}
	}
}

// The disk is filled with one of the log's own sectors: none of it is taken for a
// log's but in its place, and what is laid on it ends where it ends.
func TestDisksFilledWithOneMark(t *testing.T) {
	for _, start := range starts(t) {
		for _, mark := range marks(start) {
			for from := range 2 {
				d := filledWith(t, 64, func(s int) (out [64]byte) {
					if s%32 >= from {
						copy(out[:], mark)
					}
					return out
				})
				expectWorks(t, d)
			}
		}
	}
}

// Two records' own frames behind a checkpoint that is told beforehand: the disk
// held them ahead of the first call.
func TestForeseenFramesOnAForeignDisk(t *testing.T) {
	for _, list := range [][][]byte{nil, texts("a"), {patch("AB")}} {
		for _, last := range []step{appending("none", nil), appending("b", []byte("b"))} {
			for _, mark := range marks(laid(t, 64, checkpointing("list", list...), last, last)) {
				d := filledWith(t, 64, func(int) [64]byte { return [64]byte([]byte(mark)) })
				l := opened(t, d)
				expectRecords(t, l, nil)
				expect(t, "Checkpoint", l.Checkpoint(list), api.OK)
				expectKept(t, d, l, list)
			}
		}
	}
}

// Sectors of a log's disk are turned, exchanged and dropped: no call panics, and
// what is opened is a log.
func TestTurnedSectors(t *testing.T) {
	r := rand.New(rand.NewSource(104))
	for _, start := range starts(t) {
		for range 300 {
			image := []byte(start)
			for range 1 + r.Intn(3) {
				a, b := r.Intn(len(image)/64)*64, r.Intn(len(image)/64)*64
				switch r.Intn(4) {
				case 0:
					image[r.Intn(len(image))] ^= 1 << r.Intn(8)
				case 1:
					copy(image[a:a+64], start[b:])
				case 2:
					copy(image[a:a+32], make([]byte, 32))
				case 3:
					copy(image[a+32:a+64], bytes.Repeat([]byte{byte(r.Intn(256))}, 32))
				}
			}
			expectWorks(t, diskOf(t, string(image)))
		}
	}
}

// What a log has laid, with one sector gone, is no frame; and no crash brings it
// back by laying just that sector anew.
func TestCrashesOnADiskWithASectorGone(t *testing.T) {
	r := rand.New(rand.NewSource(106))
	steps := []step{
		checkpointing("XXYY", patch("XXYY")), checkpointing("ZZYY", patch("ZZYY")), checkpointing("XXZZ", patch("XXZZ")),
		appending("ZZYY", patch("ZZYY")),
	}
	for _, laying := range [][]step{steps[:1], {steps[0], steps[0]}, {steps[1], steps[0]}, {steps[1], steps[1], steps[0]}} {
		image := laid(t, 64, laying...)
		for at := 0; at < len(image); at += 64 {
			if strings.Trim(image[at:at+64], "\x00") == "" {
				continue
			}
			gone := image[:at] + string(make([]byte, 64)) + image[at+64:]
			for _, s := range steps {
				crashes(t, r, gone, s)
			}
		}
	}
}

func TestHalvesInEachOthersPlace(t *testing.T) {
	r := rand.New(rand.NewSource(107))
	steps := []step{checkpointing("AB", patch("AB")), appending("ABCD", patch("ABCD"))}
	for _, start := range starts(t) {
		half := len(start) / 128 * 64
		one, two, rest := start[:half], start[half:2*half], start[2*half:]
		for _, image := range []string{two + one + rest, one + one + rest, two + two + rest} {
			expectWorks(t, diskOf(t, image))
			for _, s := range steps {
				for _, after := range crashes(t, r, image, s) {
					expectWorks(t, diskOf(t, after))
				}
			}
		}
	}
}
