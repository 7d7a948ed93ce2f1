package wal_test

import (
	"bytes"
	"math/rand"
	"testing"

	"beacon/api"
	"beacon/disk"
	"beacon/wal"
)

// step is a call of a log, and what it leaves of one that lies there.
type step struct {
	name  string
	call  func(l *wal.Log) api.Errno
	leave func(records [][]byte) [][]byte
}

func appending(name string, record []byte) step {
	return step{
		"Append " + name,
		func(l *wal.Log) api.Errno { return l.Append(record) },
		func(records [][]byte) [][]byte { return append(records[:len(records):len(records)], record) },
	}
}

func checkpointing(name string, list ...[]byte) step {
	return step{
		"Checkpoint " + name,
		func(l *wal.Log) api.Errno { return l.Checkpoint(list) },
		func([][]byte) [][]byte { return list },
	}
}

// patch answers a record of half sectors, each filled with one letter: so that old and
// new bytes, mixed by a crash, often are the bytes of a third record.
func patch(letters string) []byte {
	var out []byte
	for _, c := range []byte(letters) {
		out = append(out, bytes.Repeat([]byte{c}, 32)...)
	}
	return out
}

// eachChoice calls f with all choices of 0 to 3 for so many writes; if these are too
// many, with those that treat all alike but one, and with drawn ones.
func eachChoice(r *rand.Rand, writes int, f func(choices []byte)) {
	if writes <= 4 {
		for n := range 1 << (2 * writes) {
			choices := make([]byte, writes)
			for i := range choices {
				choices[i] = byte(n >> (2 * i) & 3)
			}
			f(choices)
		}
		return
	}
	for all := range byte(4) {
		f(bytes.Repeat([]byte{all}, writes))
		for at := range writes {
			for one := range byte(4) {
				choices := bytes.Repeat([]byte{all}, writes)
				choices[at] = one
				f(choices)
			}
		}
	}
	for range 40 {
		choices := drawn(r, writes)
		for i := range choices {
			choices[i] %= 4
		}
		f(choices)
	}
}

// crashes runs a step on a disk of this image with the fuse at each operation, and
// with each choice for what waits then. It asks what is promised of what is
// recovered, and answers the images of all disks that come about.
func crashes(t *testing.T, r *rand.Rand, image string, s step) (after []string) {
	t.Helper()
	ahead := opened(t, diskOf(t, image)).Records()
	behind := s.leave(ahead)
	run := func(fuse int) (*disk.Disk, *wal.Log, api.Errno) {
		d := diskOf(t, image)
		l := opened(t, d)
		d.SetFuse(fuse)
		return d, l, s.call(l)
	}
	for fuse := 0; ; fuse++ {
		d, l, e := run(fuse)
		if e == api.OK {
			d.SetFuse(-1)
			expectKept(t, d, l, behind)
			return append(after, imageOf(t, d))
		}
		expect(t, s.name, e, api.ErrLost)
		expectRecords(t, l, ahead)
		expect(t, "Append behind ErrLost", l.Append(nil), api.ErrLost)
		eachChoice(r, d.Waiting(), func(choices []byte) {
			d, _, _ := run(fuse)
			d.Restart(choices)
			got := opened(t, d).Records()
			if !same(got, ahead) && !same(got, behind) {
				t.Fatalf("%s, fuse %d, choices %d: %q, ahead of it %q", s.name, fuse, choices, short(got), short(ahead))
			}
			after = append(after, imageOf(t, d))
		})
	}
}

// explore goes on from each disk that a crash has left, crash upon crash, each
// disk once; it stops at so many disks.
func explore(t *testing.T, start string, steps []step, depth, most int) {
	t.Helper()
	r := rand.New(rand.NewSource(98))
	seen := map[string]bool{start: true}
	level := []string{start}
	for range depth {
		var next []string
		for _, image := range level {
			for _, s := range steps {
				for _, a := range crashes(t, r, image, s) {
					if !seen[a] && len(seen) < most {
						seen[a] = true
						next = append(next, a)
					}
				}
			}
		}
		r.Shuffle(len(next), func(i, j int) { next[i], next[j] = next[j], next[i] })
		level = next
	}
}

func laid(t *testing.T, sectors int, steps ...step) string {
	t.Helper()
	d := made(t, sectors)
	l := opened(t, d)
	for _, s := range steps {
		expect(t, s.name, s.call(l), api.OK)
	}
	return imageOf(t, d)
}

// starts are logs in which the next frame stands behind the disk's first bytes,
// behind a checkpoint, and where frames of older turns have stood.
func starts(t *testing.T) []string {
	t.Helper()
	a, b := appending("a", []byte("a")), appending("b", patch("QRST"))
	return []string{
		laid(t, 64),
		laid(t, 64, a),
		laid(t, 65, a, b, b),
		laid(t, 64, a, b, b, b, checkpointing("none"), checkpointing("x", []byte("x"))),
		laid(t, 64, checkpointing("many", patch("XY"), patch("XZ"), patch("XXXXXX")), checkpointing("none")),
	}
}

func TestACrashAtEachOperation(t *testing.T) {
	r := rand.New(rand.NewSource(99))
	for _, start := range starts(t) {
		for _, n := range []int{0, 1, 31, 32, 33, 63, 64, 65, 127, 128, 129, 200} {
			record := drawn(r, n)
			crashes(t, r, start, appending("drawn", record))
			crashes(t, r, start, checkpointing("one", record))
			crashes(t, r, start, checkpointing("three", record, []byte("a"), record[:n/2]))
			crashes(t, r, start, appending("noughts", make([]byte, n)))
		}
		crashes(t, r, start, checkpointing("none"))
		crashes(t, r, start, checkpointing("empty ones", nil, nil))
	}
}

func TestACrashAtEachOperationOfAGreatRecord(t *testing.T) {
	r := rand.New(rand.NewSource(100))
	d := made(t, 8192)
	l := opened(t, d)
	expect(t, "Append", l.Append([]byte("a")), api.OK)
	want := texts("a")
	great := drawn(r, api.MostRecord)
	for fuse := 0; ; fuse += 1 + r.Intn(60) {
		choices := drawn(r, fuse)
		for i := range choices {
			choices[i] = 1 + choices[i]%8/7
		}
		d.SetFuse(fuse)
		e := l.Append(great)
		if e == api.OK {
			d.SetFuse(-1)
			expectKept(t, d, l, append(want, great))
			return
		}
		expect(t, "Append", e, api.ErrLost)
		d.Restart(choices)
		l = opened(t, d)
		if got := l.Records(); same(got, append(want, great)) {
			return
		}
		expectRecords(t, l, want)
	}
}

func TestCrashUponCrash(t *testing.T) {
	steps := []step{
		appending("AB", patch("AB")),
		appending("ABCD", patch("ABCD")),
		appending("ABCX", patch("ABCX")),
		appending("XYCD", patch("XYCD")),
		appending("none", nil),
		checkpointing("ABCD", patch("ABCD")),
		checkpointing("ABXY", patch("ABXY")),
		checkpointing("two", patch("AB"), patch("XY")),
		checkpointing("none"),
	}
	for _, start := range starts(t) {
		t.Run("", func(t *testing.T) {
			t.Parallel()
			explore(t, start, steps, 3, 100)
		})
	}
}

// Three records of which one is put together of the others' halves.
func TestCrashUponCrashOfRecordsThatMix(t *testing.T) {
	start := laid(t, 64, appending("a", []byte("a")))
	t.Run("Append", func(t *testing.T) {
		t.Parallel()
		explore(t, start, []step{
			appending("XXYY", patch("XXYY")),
			appending("ZZYY", patch("ZZYY")),
			appending("XXZZ", patch("XXZZ")),
		}, 4, 700)
	})
	t.Run("Checkpoint", func(t *testing.T) {
		t.Parallel()
		explore(t, start, []step{
			checkpointing("XXYY", patch("XXYY")),
			checkpointing("ZZYY", patch("ZZYY")),
			checkpointing("XXZZ", patch("XXZZ")),
		}, 4, 300)
	})
}

func TestDrawnCrashesInARow(t *testing.T) {
	r := rand.New(rand.NewSource(101))
	letters := func(n int) string {
		b := make([]byte, r.Intn(n+1))
		for i := range b {
			b[i] = "ABC"[r.Intn(3)]
		}
		return string(b)
	}
	for range 3000 {
		d := made(t, 64+r.Intn(3))
		var ahead [][]byte
		for range 8 {
			l := opened(t, d)
			expectRecords(t, l, ahead)
			s := appending("drawn", patch(letters(8)))
			if r.Intn(4) == 0 || taken(s.leave(ahead)) > room(64) {
				s = checkpointing("drawn", patch(letters(6)), patch(letters(4)))
			}
			d.SetFuse(r.Intn(14))
			e := s.call(l)
			choices := drawn(r, d.Waiting())
			for i := range choices {
				choices[i] %= 4
			}
			d.Restart(choices)
			got := opened(t, d).Records()
			if !same(got, s.leave(ahead)) && (e == api.OK || !same(got, ahead)) {
				t.Fatalf("%s, %v, choices %d: %q, ahead of it %q", s.name, e, choices, short(got), short(ahead))
			}
			ahead = got
		}
	}
}

// Open meets the crash at each of its operations, whatever waits on the disk.
func TestACrashWithinOpen(t *testing.T) {
	for _, start := range starts(t) {
		want := opened(t, diskOf(t, start)).Records()
		for torn := range byte(4) {
			for fuse := 0; ; fuse++ {
				d := diskOf(t, start)
				d.SetFuse(3)
				l := opened(t, d)
				expect(t, "Append", l.Append(patch("ABCDEF")), api.ErrLost)
				refuseOpen(t, d, api.ErrLost)
				d.Restart([]byte{torn, torn, torn, torn})
				d.Write(d.Sectors()-1, [64]byte{1, 2, 3})
				d.SetFuse(fuse)
				l, e := wal.Open(d)
				if e == api.OK {
					d.SetFuse(-1)
					expectKept(t, d, l, want)
					break
				}
				if l != nil || e != api.ErrLost || !d.Down() || fuse > 1000 {
					t.Fatalf("Open: %v, %v", l, e)
				}
				refuseOpen(t, d, api.ErrLost)
				d.Restart([]byte{torn})
				expectKept(t, d, opened(t, d), want)
			}
		}
	}
}

// What waits when a log is opened is no more lost by a crash than what the log has laid.
func TestOpenOfADiskWithWritesThatWait(t *testing.T) {
	for _, start := range starts(t) {
		for _, full := range []bool{false, true} {
			want := opened(t, diskOf(t, start)).Records()
			d := made(t, len(start)/64)
			for s := range d.Sectors() {
				d.Write(s, [64]byte([]byte(start[s*64:s*64+64])))
			}
			d.SetFull(full)
			expectRecords(t, opened(t, d), want)
			d.Restart(nil)
			expectKept(t, d, opened(t, d), want)
		}
	}
}

// A full disk whose log was torn: Open answers as on one that isn't full.
func TestOpenOfAFullDiskBehindACrash(t *testing.T) {
	r := rand.New(rand.NewSource(102))
	for _, start := range starts(t) {
		for _, s := range []step{appending("ABCD", patch("ABCD")), checkpointing("two", patch("AB"), patch("CD"))} {
			for _, image := range crashes(t, r, start, s) {
				d := diskOf(t, image)
				want := opened(t, d).Records()
				d.SetFull(true)
				l := opened(t, d)
				expectKept(t, d, l, want)
				expect(t, "Append", l.Append(nil), api.ErrFull)
				d.SetFull(false)
				expect(t, "Append", l.Append([]byte("z")), api.OK)
				expectKept(t, d, l, append(want, []byte("z")))
			}
		}
	}
}

// Behind ErrFull a crash, whatever it keeps, finds nothing of the call.
func TestACrashBehindErrFull(t *testing.T) {
	for _, start := range starts(t) {
		want := opened(t, diskOf(t, start)).Records()
		for choice := range byte(4) {
			for _, down := range []bool{false, true} {
				d := diskOf(t, start)
				l := opened(t, d)
				d.SetFull(true)
				expect(t, "Append", l.Append(patch("ABCD")), api.ErrFull)
				expect(t, "Checkpoint", l.Checkpoint(texts("x")), api.ErrFull)
				d.SetFull(false)
				expect(t, "Append", l.Append(make([]byte, 4000)), api.ErrFull)
				expect(t, "Checkpoint", l.Checkpoint([][]byte{make([]byte, 4000)}), api.ErrFull)
				if down {
					d.SetFuse(0)
					d.Sync()
				}
				d.Restart(bytes.Repeat([]byte{choice}, 100))
				expectKept(t, d, opened(t, d), want)
				expect(t, "Append", l.Append([]byte("y")), api.OK)
				expectKept(t, d, l, append(want, []byte("y")))
			}
		}
	}
}

// On a full disk the write counts for the fuse, and behind the fuse comes ErrLost.
func TestFuseOfAFullDisk(t *testing.T) {
	for _, start := range starts(t) {
		d := diskOf(t, start)
		l := opened(t, d)
		want := l.Records()
		d.SetFull(true)
		d.SetFuse(3)
		calls := 0
		for ; calls < 10; calls++ {
			if e := l.Append([]byte("x")); e != api.ErrFull {
				expect(t, "Append", e, api.ErrLost)
				break
			}
		}
		if calls != 3 || !d.Down() {
			t.Fatalf("%d calls were answered ErrFull", calls)
		}
		expect(t, "Append behind ErrLost", l.Append([]byte("x")), api.ErrLost)
		d.Restart([]byte{1, 1, 1})
		d.SetFull(false)
		expect(t, "Append behind ErrLost", l.Append([]byte("x")), api.ErrLost)
		expectKept(t, d, opened(t, d), want)
	}
}

// The disk goes down by a call that isn't the log's: it still tells its records.
func TestRecordsOfADiskThatGoesDown(t *testing.T) {
	for _, start := range starts(t) {
		d := diskOf(t, start)
		want := opened(t, d).Records()
		l := opened(t, d)
		d.SetFuse(0)
		d.Sync()
		expectRecords(t, l, want)
		expect(t, "Append", l.Append([]byte("x")), api.ErrLost)
		expectRecords(t, l, want)
		d.Restart(nil)
		expectRecords(t, l, want)
		expectKept(t, d, opened(t, d), want)
	}
}
