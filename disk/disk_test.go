package disk_test

import (
	"math"
	"testing"

	"beacon/api"
	"beacon/disk"
)

func filled(b byte) (s [64]byte) {
	for i := range s {
		s[i] = b
	}
	return s
}

// halves is a sector of two bytes: the one 32 times, and the other behind it.
func halves(first, second byte) (s [64]byte) {
	for i := range 32 {
		s[i], s[32+i] = first, second
	}
	return s
}

func made(t *testing.T, sectors int) *disk.Disk {
	t.Helper()
	d, e := disk.New(sectors)
	if d == nil || e != api.OK {
		t.Fatalf("New(%d): %v, %v", sectors, d, e)
	}
	return d
}

func expect(t *testing.T, what string, got, want api.Errno) {
	t.Helper()
	if got != want {
		t.Errorf("%s: %v, not %v", what, got, want)
	}
}

func expectRead(t *testing.T, d *disk.Disk, sector int, want [64]byte) {
	t.Helper()
	if got, e := d.Read(sector); got != want || e != api.OK {
		t.Errorf("Read(%d): %x, %v, not %x", sector, got, e, want)
	}
}

func refuseRead(t *testing.T, d *disk.Disk, sector int, want api.Errno) {
	t.Helper()
	if got, e := d.Read(sector); got != [64]byte{} || e != want {
		t.Errorf("Read(%d): %x, %v, not %v", sector, got, e, want)
	}
}

func expectState(t *testing.T, d *disk.Disk, down bool, waiting int) {
	t.Helper()
	if d.Down() != down || d.Waiting() != waiting {
		t.Errorf("Down %v, Waiting %d, not %v, %d", d.Down(), d.Waiting(), down, waiting)
	}
}

func TestNew(t *testing.T) {
	for _, n := range []int{math.MinInt, -api.MostItems, -1, 0, api.MostItems + 1, 1 << 20, math.MaxInt} {
		if d, e := disk.New(n); d != nil || e != api.ErrArg {
			t.Errorf("New(%d): %v, %v", n, d, e)
		}
	}
	for _, n := range []int{1, 2, 64, api.MostItems - 1, api.MostItems} {
		d := made(t, n)
		if d.Sectors() != n {
			t.Errorf("Sectors: %d, not %d", d.Sectors(), n)
		}
		expectState(t, d, false, 0)
		for s := range n {
			expectRead(t, d, s, [64]byte{})
		}
		expect(t, "Write, neither full nor down", d.Write(n-1, filled(1)), api.OK)
		for range 100 {
			expect(t, "Sync without a fuse", d.Sync(), api.OK)
		}
	}
}

func TestSectorsThatThereAreNot(t *testing.T) {
	for _, n := range []int{1, 4, api.MostItems} {
		d := made(t, n)
		for _, s := range []int{math.MinInt, -n, -1, n, n + 1, math.MaxInt} {
			expect(t, "Write where no sector is", d.Write(s, filled(1)), api.ErrArg)
			refuseRead(t, d, s, api.ErrArg)
		}
		expectState(t, d, false, 0)
		for _, s := range []int{0, n / 2, n - 1} {
			expect(t, "Write", d.Write(s, filled(byte(s+1))), api.OK)
			expectRead(t, d, s, filled(byte(s+1)))
		}
		expectState(t, d, false, 3)
	}
}

func TestReadBehindWrites(t *testing.T) {
	d := made(t, 4)
	d.Write(1, filled(1))
	d.Write(2, filled(2))
	d.Write(1, halves(3, 4))
	d.Write(0, filled(5))
	for s, want := range [][64]byte{filled(5), halves(3, 4), filled(2), {}} {
		expectRead(t, d, s, want)
	}
	expectState(t, d, false, 4)
	d.Write(1, filled(0))
	expectRead(t, d, 1, [64]byte{})
	expect(t, "Sync", d.Sync(), api.OK)
	expectRead(t, d, 1, [64]byte{})
	expectRead(t, d, 2, filled(2))
}

func TestSync(t *testing.T) {
	d := made(t, 8)
	expect(t, "Sync of none", d.Sync(), api.OK)
	expectState(t, d, false, 0)
	d.Write(3, filled(1))
	expect(t, "Sync of one", d.Sync(), api.OK)
	expectState(t, d, false, 0)
	d.Restart(nil)
	expectRead(t, d, 3, filled(1))
	d.Write(3, filled(2))
	d.Write(3, filled(3))
	expectState(t, d, false, 2)
	expect(t, "Sync of two of one sector", d.Sync(), api.OK)
	expectState(t, d, false, 0)
	d.Restart([]byte{1, 1, 1})
	expectRead(t, d, 3, filled(3))
	for i := range 100 {
		d.Write(i%7, filled(byte(i)))
		expectState(t, d, false, i+1)
	}
	expect(t, "Sync of many", d.Sync(), api.OK)
	d.Restart(nil)
	for s := range 7 {
		last := s
		for last+7 < 100 {
			last += 7
		}
		expectRead(t, d, s, filled(byte(last)))
	}
	expectRead(t, d, 7, [64]byte{})
}

func TestFull(t *testing.T) {
	d := made(t, 4)
	d.Write(0, filled(1))
	d.SetFull(true)
	expect(t, "Write of a full disk", d.Write(1, filled(2)), api.ErrFull)
	expect(t, "Write where it has been written", d.Write(0, filled(2)), api.ErrFull)
	expect(t, "Write where no sector is", d.Write(4, filled(2)), api.ErrArg)
	refuseRead(t, d, 4, api.ErrArg)
	expectState(t, d, false, 1)
	expectRead(t, d, 0, filled(1))
	expectRead(t, d, 1, [64]byte{})
	expect(t, "Sync of a full disk", d.Sync(), api.OK)
	expectState(t, d, false, 0)
	expect(t, "Write of a full disk", d.Write(1, filled(2)), api.ErrFull)
	d.SetFull(true)
	expect(t, "Write, twice full", d.Write(1, filled(2)), api.ErrFull)
	d.SetFull(false)
	expect(t, "Write, full no more", d.Write(1, filled(3)), api.OK)
	expectState(t, d, false, 1)
	d.Restart(nil)
	expectRead(t, d, 0, filled(1))
	expectRead(t, d, 1, [64]byte{})
}

func TestFuse(t *testing.T) {
	for _, n := range []int{0, 1, 2, 3, 10, 1000} {
		d := made(t, 4)
		d.SetFuse(n)
		for i := range n {
			if i%3 == 2 {
				expect(t, "Sync", d.Sync(), api.OK)
			} else {
				expect(t, "Write", d.Write(i%4, filled(byte(i))), api.OK)
			}
		}
		waiting := d.Waiting()
		expectState(t, d, false, n%3)
		expect(t, "Sync behind the fuse", d.Sync(), api.ErrLost)
		expectState(t, d, true, waiting)
		expect(t, "Sync of a disk that is down", d.Sync(), api.ErrLost)
		expectState(t, d, true, waiting)
	}
}

func TestFuseOfAWrite(t *testing.T) {
	d := made(t, 4)
	d.Write(1, filled(1))
	d.SetFuse(0)
	expectState(t, d, false, 1)
	expectRead(t, d, 1, filled(1))
	expect(t, "Write at the fuse's end", d.Write(2, filled(2)), api.ErrLost)
	expectState(t, d, true, 1)
	d.Restart([]byte{1, 1})
	expectRead(t, d, 1, filled(1))
	expectRead(t, d, 2, [64]byte{})
}

func TestNoFuse(t *testing.T) {
	for _, n := range []int{-1, -2, math.MinInt} {
		d := made(t, 1)
		d.SetFuse(0)
		d.SetFuse(n)
		for range 50 {
			expect(t, "Write without a fuse", d.Write(0, filled(1)), api.OK)
			expect(t, "Sync without a fuse", d.Sync(), api.OK)
		}
	}
	d := made(t, 1)
	d.SetFuse(math.MaxInt)
	for range 50 {
		expect(t, "Sync with the greatest fuse", d.Sync(), api.OK)
	}
}

func TestFuseSetAnew(t *testing.T) {
	d := made(t, 1)
	d.SetFuse(5)
	d.Sync()
	d.SetFuse(1)
	expect(t, "the one operation", d.Sync(), api.OK)
	d.SetFuse(2)
	expect(t, "the first of two", d.Sync(), api.OK)
	expect(t, "the second of two", d.Write(0, filled(1)), api.OK)
	expect(t, "the third of two", d.Write(0, filled(2)), api.ErrLost)
	expectState(t, d, true, 1)
	for _, n := range []int{5, 0, -1} {
		d.SetFuse(n)
		expectState(t, d, true, 1)
		expect(t, "a fuse doesn't bring a disk up", d.Sync(), api.ErrLost)
		refuseRead(t, d, 0, api.ErrLost)
	}
}

func TestWhatCountsForTheFuse(t *testing.T) {
	d := made(t, 2)
	d.SetFuse(1)
	for range 10 {
		expect(t, "Write where no sector is", d.Write(2, filled(1)), api.ErrArg)
		expect(t, "Write where no sector is", d.Write(-1, filled(1)), api.ErrArg)
		refuseRead(t, d, 2, api.ErrArg)
		expectRead(t, d, 0, [64]byte{})
		d.SetFull(false)
		expectState(t, d, false, 0)
	}
	d.SetFull(true)
	expect(t, "Write of a full disk", d.Write(0, filled(1)), api.ErrFull)
	for range 10 {
		expect(t, "Write where no sector is", d.Write(2, filled(1)), api.ErrArg)
		expectRead(t, d, 0, [64]byte{})
		expectState(t, d, false, 0)
	}
	expect(t, "Write of a full disk that goes down", d.Write(0, filled(1)), api.ErrLost)
	expectState(t, d, true, 0)
	d.Restart(nil)
	d.SetFuse(1)
	expect(t, "Sync of none", d.Sync(), api.OK)
	expect(t, "Sync of none, which has counted", d.Sync(), api.ErrLost)
}

func TestDown(t *testing.T) {
	d := made(t, 3)
	d.Write(0, filled(1))
	d.Sync()
	d.Write(1, filled(2))
	d.Write(0, filled(3))
	d.SetFuse(0)
	d.Sync()
	for _, full := range []bool{false, true} {
		d.SetFull(full)
		expect(t, "Write", d.Write(2, filled(4)), api.ErrLost)
		expect(t, "Sync", d.Sync(), api.ErrLost)
		for s := range 3 {
			refuseRead(t, d, s, api.ErrLost)
		}
		for _, s := range []int{math.MinInt, -1, 3, math.MaxInt} {
			expect(t, "Write where no sector is", d.Write(s, filled(4)), api.ErrArg)
			refuseRead(t, d, s, api.ErrArg)
		}
		expectState(t, d, true, 2)
		if d.Sectors() != 3 {
			t.Errorf("Sectors of a disk that is down: %d", d.Sectors())
		}
	}
	d.Restart([]byte{0, 1})
	for s, want := range [][64]byte{filled(3), {}, {}} {
		expectRead(t, d, s, want)
	}
}

func TestChapterExamples(t *testing.T) {
	x := halves(7, 8)
	d := made(t, 4)
	expect(t, "Write", d.Write(1, x), api.OK)
	expectRead(t, d, 1, x)
	d.Restart(nil)
	expectRead(t, d, 1, [64]byte{})

	expect(t, "Write", d.Write(1, x), api.OK)
	expect(t, "Sync", d.Sync(), api.OK)
	d.Restart(nil)
	expectRead(t, d, 1, x)

	d = made(t, 4)
	d.SetFuse(1)
	expect(t, "Write", d.Write(1, x), api.OK)
	expect(t, "Sync", d.Sync(), api.ErrLost)
	expectState(t, d, true, 1)
	d.Restart([]byte{2})
	expectRead(t, d, 1, halves(7, 0))
}
