package store_test

import (
	"bytes"
	"maps"
	"math/rand"
	"strings"
	"testing"

	"beacon/api"
	"beacon/disk"
	"beacon/store"
)

// eachChoice calls f with all choices of 0 to 3 for so many writes; if these are too
// many, with those that treat all alike but one, and with drawn ones.
func eachChoice(r *rand.Rand, writes int, f func(choices []byte)) {
	if writes <= 3 {
		for n := range 1 << (2 * writes) {
			choices := make([]byte, writes)
			for i := range choices {
				choices[i] = byte(n >> (2 * i) & 3)
			}
			f(choices)
		}
		return
	}
	for all := range byte(4) {
		f(bytes.Repeat([]byte{all}, writes))
		for at := range writes {
			for one := range byte(4) {
				choices := bytes.Repeat([]byte{all}, writes)
				choices[at] = one
				f(choices)
			}
		}
	}
	for range 20 {
		choices := []byte(drawn(r, writes))
		for i := range choices {
			choices[i] %= 4
		}
		f(choices)
	}
}

// crashes runs a batch on a disk of this image with the fuse at each operation, and
// with each choice for what waits then. It asks what is promised of what is
// recovered, and answers the images of all disks that come about.
func crashes(t *testing.T, r *rand.Rand, image string, changes []store.Change) (after []string) {
	t.Helper()
	ahead := told(t, opened(t, diskOf(t, image)))
	done := behind(ahead, changes)
	run := func(fuse int) (*disk.Disk, *store.Store, api.Errno) {
		d := diskOf(t, image)
		s := opened(t, d)
		d.SetFuse(fuse)
		return d, s, s.Apply(changes)
	}
	for fuse := 0; ; fuse++ {
		d, s, e := run(fuse)
		if e == api.OK {
			d.SetFuse(-1)
			expectKept(t, d, s, done)
			return append(after, imageOf(t, d))
		}
		expect(t, "Apply", e, api.ErrLost)
		expectTable(t, s, ahead)
		expect(t, "Apply behind ErrLost", s.Apply(changes), api.ErrLost)
		eachChoice(r, d.Waiting(), func(choices []byte) {
			d, _, _ := run(fuse)
			d.Restart(choices)
			got := told(t, opened(t, d))
			if !maps.Equal(got, ahead) && !maps.Equal(got, done) {
				t.Fatalf("fuse %d, choices %d: %q, ahead of it %q", fuse, choices, short(got), short(ahead))
			}
			after = append(after, imageOf(t, d))
		})
	}
}

func laid(t *testing.T, sectors int, batches ...[]store.Change) string {
	t.Helper()
	d := made(t, sectors)
	s := opened(t, d)
	for _, b := range batches {
		expect(t, "Apply", s.Apply(b), api.OK)
	}
	return imageOf(t, d)
}

// starts are disks on which so many batches were laid: the next one is put behind
// them, or the log is laid anew with it, in either half.
func starts(t *testing.T) (out []string) {
	t.Helper()
	for n := range 25 {
		var batches [][]store.Change
		for i := range n {
			batches = append(batches, batch(lay(string([]byte{byte('a' + i%3)}), strings.Repeat("x", 3*i))))
		}
		out = append(out, laid(t, 64+n%2, batches...))
	}
	return out
}

func stories() [][]store.Change {
	return [][]store.Change{
		{lay("a", "new")},
		{drop("a")},
		{drop("none")},
		{lay("a", ""), drop("b"), lay("d", strings.Repeat("y", 70)), lay("e", "z")},
		{drop("a"), drop("b"), drop("c")},
	}
}

func TestACrashAtEachOperation(t *testing.T) {
	r := rand.New(rand.NewSource(8))
	for _, start := range starts(t) {
		for _, changes := range stories() {
			crashes(t, r, start, changes)
		}
	}
}

// A batch that is greater than the disk makes the log begin anew, whatever lies there.
func TestACrashAtEachOperationOfALogLaidAnew(t *testing.T) {
	r := rand.New(rand.NewSource(9))
	for _, start := range starts(t)[:12] {
		for _, image := range crashes(t, r, start, batch(lay("a", strings.Repeat("v", 3000)), lay("a", "w"))) {
			if r.Intn(30) == 0 {
				crashes(t, r, image, batch(lay("b", strings.Repeat("v", 3000)), drop("b")))
			}
		}
	}
}

// explore goes on from each disk that a crash has left, crash upon crash, each
// disk once; it stops at so many disks.
func explore(t *testing.T, start string, depth, most int) {
	t.Helper()
	r := rand.New(rand.NewSource(10))
	seen := map[string]bool{start: true}
	level := []string{start}
	for range depth {
		var next []string
		for _, image := range level {
			for _, changes := range stories() {
				for _, a := range crashes(t, r, image, changes) {
					if !seen[a] && len(seen) < most {
						seen[a] = true
						next = append(next, a)
					}
				}
			}
		}
		r.Shuffle(len(next), func(i, j int) { next[i], next[j] = next[j], next[i] })
		level = next
	}
}

func TestCrashUponCrash(t *testing.T) {
	for i, start := range starts(t) {
		if i%3 == 0 {
			t.Run("", func(t *testing.T) {
				t.Parallel()
				explore(t, start, 3, 60)
			})
		}
	}
}

// Crashes in a row, on one disk, with the table opened between them.
func TestDrawnCrashesInARow(t *testing.T) {
	r := rand.New(rand.NewSource(11))
	for range 300 {
		n := 64 + r.Intn(4)
		d := made(t, n)
		ahead := texts{}
		for range 60 {
			s := opened(t, d)
			expectTable(t, s, ahead)
			changes := drawnBatch(r)
			d.SetFuse(r.Intn(16))
			e := s.Apply(changes)
			for e == api.OK {
				ahead = behind(ahead, changes)
				changes = drawnBatch(r)
				e = s.Apply(changes)
			}
			if e == api.ErrFull && taken(behind(ahead, changes)) <= room(n) {
				t.Fatalf("ErrFull of %d bytes", taken(behind(ahead, changes)))
			}
			d.Restart(drawnChoices(r, d.Waiting()))
			for again := range r.Intn(3) {
				d.SetFuse(again)
				store.Open(d)
				d.Restart(drawnChoices(r, d.Waiting()))
			}
			got := told(t, opened(t, d))
			if !maps.Equal(got, ahead) && (e != api.ErrLost || !maps.Equal(got, behind(ahead, changes))) {
				t.Fatalf("%v: %q, ahead of it %q", e, short(got), short(ahead))
			}
			ahead = got
		}
	}
}

// Open meets the crash at each of its operations, whatever waits on the disk.
func TestACrashWithinOpen(t *testing.T) {
	for _, start := range starts(t) {
		want := told(t, opened(t, diskOf(t, start)))
		for torn := range byte(4) {
			for fuse := 0; ; fuse++ {
				d := diskOf(t, start)
				d.Write(d.Sectors()-1, [64]byte{1, 2, 3})
				d.Write(d.Sectors()-1, [64]byte{4})
				d.SetFuse(fuse)
				s, e := store.Open(d)
				if e == api.OK {
					d.SetFuse(-1)
					expectKept(t, d, s, want)
					break
				}
				if s != nil || e != api.ErrLost || !d.Down() || fuse > 1000 {
					t.Fatalf("Open: %v, %v", s, e)
				}
				refuseOpen(t, d, api.ErrLost)
				d.Restart([]byte{torn, torn})
				expectKept(t, d, opened(t, d), want)
			}
		}
	}
}

// Behind ErrFull a crash, whatever it keeps, finds nothing of the batch.
func TestACrashBehindErrFull(t *testing.T) {
	for _, start := range starts(t) {
		want := told(t, opened(t, diskOf(t, start)))
		for choice := range byte(4) {
			for _, down := range []bool{false, true} {
				d := diskOf(t, start)
				s := opened(t, d)
				d.SetFull(true)
				expect(t, "Apply", s.Apply(batch(drop("a"), lay("b", "?"))), api.ErrFull)
				d.SetFull(false)
				expect(t, "Apply", s.Apply(batch(drop("a"), lay("b", strings.Repeat("?", 5000)))), api.ErrFull)
				if down {
					d.SetFuse(0)
					d.Sync()
				}
				d.Restart(bytes.Repeat([]byte{choice}, 100))
				expectKept(t, d, opened(t, d), want)
				expect(t, "Apply", s.Apply(batch(lay("y", "z"))), api.OK)
				expectKept(t, d, s, behind(want, batch(lay("y", "z"))))
			}
		}
	}
}
