package wal_test

import (
	"bytes"
	"math/rand"
	"slices"
	"strings"
	"testing"

	"beacon/api"
	"beacon/disk"
	"beacon/wal"
)

func made(t testing.TB, sectors int) *disk.Disk {
	t.Helper()
	d, e := disk.New(sectors)
	if d == nil || e != api.OK {
		t.Fatalf("New(%d): %v, %v", sectors, d, e)
	}
	return d
}

func opened(t testing.TB, d *disk.Disk) *wal.Log {
	t.Helper()
	l, e := wal.Open(d)
	if l == nil || e != api.OK {
		t.Fatalf("Open: %v, %v", l, e)
	}
	return l
}

func refuseOpen(t testing.TB, d *disk.Disk, want api.Errno) {
	t.Helper()
	if l, e := wal.Open(d); l != nil || e != want {
		t.Fatalf("Open: %v, %v, not %v", l, e, want)
	}
}

func expect(t testing.TB, what string, got, want api.Errno) {
	t.Helper()
	if got != want {
		t.Fatalf("%s: %v, not %v", what, got, want)
	}
}

func texts(s ...string) (out [][]byte) {
	for _, x := range s {
		out = append(out, []byte(x))
	}
	return out
}

func same(a, b [][]byte) bool { return slices.EqualFunc(a, b, bytes.Equal) }

func short(records [][]byte) string {
	var s strings.Builder
	for _, r := range records {
		s.WriteString(string(r[:min(len(r), 12)]) + ";")
	}
	return s.String()
}

func expectRecords(t testing.TB, l *wal.Log, want [][]byte) {
	t.Helper()
	if got := l.Records(); !same(got, want) {
		t.Fatalf("%d records %q, not %d %q", len(got), short(got), len(want), short(want))
	}
}

// expectKept: the log has these records, a crash that drops all that waits leaves
// them, and so does one that keeps it.
func expectKept(t testing.TB, d *disk.Disk, l *wal.Log, want [][]byte) {
	t.Helper()
	if d.Waiting() != 0 {
		t.Fatalf("%d writes wait", d.Waiting())
	}
	expectRecords(t, l, want)
	expectRecords(t, opened(t, d), want)
	d.Restart(nil)
	expectRecords(t, opened(t, d), want)
}

func drawn(r *rand.Rand, size int) []byte {
	b := make([]byte, size)
	for i := range b {
		b[i] = byte(r.Intn(256))
	}
	return b
}

func imageOf(t testing.TB, d *disk.Disk) string {
	t.Helper()
	b := make([]byte, 0, d.Sectors()*api.SectorSize)
	for s := range d.Sectors() {
		data, e := d.Read(s)
		if e != api.OK {
			t.Fatalf("Read(%d): %v", s, e)
		}
		b = append(b, data[:]...)
	}
	return string(b)
}

func diskOf(t testing.TB, image string) *disk.Disk {
	t.Helper()
	d := made(t, len(image)/api.SectorSize)
	for s := range d.Sectors() {
		if data := [64]byte([]byte(image[s*64 : s*64+64])); data != [64]byte{} {
			d.Write(s, data)
		}
	}
	expect(t, "Sync", d.Sync(), api.OK)
	return d
}

func TestExamples(t *testing.T) {
	d := made(t, 64)
	l := opened(t, d)
	expectRecords(t, l, nil)
	expect(t, "Append", l.Append([]byte("a")), api.OK)
	expect(t, "Append", l.Append([]byte("b")), api.OK)
	d.Restart(nil)
	l = opened(t, d)
	expectRecords(t, l, texts("a", "b"))
	d.SetFuse(0)
	expect(t, "Append", l.Append([]byte("c")), api.ErrLost)
	d.Restart(nil)
	l = opened(t, d)
	expectRecords(t, l, texts("a", "b"))
	expect(t, "Checkpoint", l.Checkpoint(texts("x")), api.OK)
	expectRecords(t, opened(t, d), texts("x"))
	expectKept(t, d, l, texts("x"))
}

func TestOpenAsksForSectors(t *testing.T) {
	refuseOpen(t, nil, api.ErrArg)
	refuseOpen(t, &disk.Disk{}, api.ErrArg)
	for _, n := range []int{1, 2, 62, 63} {
		d := made(t, n)
		refuseOpen(t, d, api.ErrArg)
		d.SetFuse(0)
		refuseOpen(t, d, api.ErrArg)
		d.Sync()
		refuseOpen(t, d, api.ErrArg) // and not ErrLost, which is named behind it
		if d.Waiting() != 0 {
			t.Errorf("%d sectors: %d writes wait", n, d.Waiting())
		}
	}
	for _, n := range []int{64, 65, 66, 67, 1000, 1001, api.MostItems - 1, api.MostItems} {
		d := made(t, n)
		l := opened(t, d)
		expectKept(t, d, l, nil)
		expect(t, "Append", l.Append([]byte("a")), api.OK)
		expect(t, "Append", l.Append([]byte("b")), api.OK)
		expectKept(t, d, l, texts("a", "b"))
	}
}

func TestOpenOfADiskThatIsDown(t *testing.T) {
	d := made(t, 64)
	d.SetFuse(0)
	d.Sync()
	for range 3 {
		refuseOpen(t, d, api.ErrLost)
	}
	d.Restart(nil)
	l := opened(t, d)
	expectRecords(t, l, nil)
	expect(t, "Append", l.Append([]byte("a")), api.OK)
	d.SetFuse(0)
	d.Sync()
	for range 3 {
		refuseOpen(t, d, api.ErrLost)
	}
	d.Restart([]byte{1, 2, 3})
	expectRecords(t, opened(t, d), texts("a"))
}

func TestOpenOfAFullDisk(t *testing.T) {
	d := made(t, 64)
	d.SetFull(true)
	l := opened(t, d)
	expectRecords(t, l, nil)
	expect(t, "Append", l.Append(nil), api.ErrFull)
	d.SetFull(false)
	expect(t, "Append", l.Append([]byte("a")), api.OK)
	expect(t, "Checkpoint", l.Checkpoint(texts("x", "y")), api.OK)
	expect(t, "Append", l.Append([]byte("z")), api.OK)
	d.SetFull(true)
	l = opened(t, d)
	expectKept(t, d, l, texts("x", "y", "z"))
	expect(t, "Append", l.Append([]byte("w")), api.ErrFull)
	d.SetFull(false)
	expect(t, "Append", l.Append([]byte("w")), api.OK)
	expectKept(t, d, l, texts("x", "y", "z", "w"))
}

// sizes are those at which a sector, or its half, is just not, just, or more than filled.
func sizes() []int {
	out := []int{0, 1, 2, 7, 8, 9, 127, 128, 129, 1000}
	for _, n := range []int{16, 24, 32, 40, 48, 56, 64} {
		out = append(out, n-1, n, n+1)
	}
	return out
}

func TestRecordsOfEachSize(t *testing.T) {
	r := rand.New(rand.NewSource(91))
	for _, n := range sizes() {
		for what, record := range map[string][]byte{
			"drawn": drawn(r, n), "noughts": make([]byte, n), "ones": bytes.Repeat([]byte{255}, n),
		} {
			d := made(t, 257)
			l := opened(t, d)
			want := [][]byte{}
			for _, x := range [][]byte{record, []byte("between"), record, record} {
				if e := l.Append(x); e != api.OK {
					t.Fatalf("Append of %d bytes, %s: %v", n, what, e)
				}
				want = append(want, x)
				expectKept(t, d, l, want)
			}
			expect(t, "Checkpoint", l.Checkpoint([][]byte{record, record, nil, record}), api.OK)
			expectKept(t, d, l, [][]byte{record, record, nil, record})
			expect(t, "Append", l.Append(record), api.OK)
			expectKept(t, d, l, [][]byte{record, record, nil, record, record})
		}
	}
}

func TestNilRecords(t *testing.T) {
	d := made(t, 64)
	l := opened(t, d)
	var want [][]byte
	for _, r := range [][]byte{nil, {}, []byte("a"), nil} {
		expect(t, "Append", l.Append(r), api.OK)
		want = append(want, r)
		expectKept(t, d, l, want)
	}
	expect(t, "Checkpoint", l.Checkpoint([][]byte{nil, {}, nil}), api.OK)
	expectKept(t, d, l, [][]byte{nil, nil, nil})
	for _, none := range [][][]byte{nil, {}} {
		expect(t, "Checkpoint", l.Checkpoint(none), api.OK)
		expectKept(t, d, l, nil)
	}
}

func TestGreatRecords(t *testing.T) {
	r := rand.New(rand.NewSource(92))
	d := made(t, 16384)
	l := opened(t, d)
	want := [][]byte{drawn(r, api.MostRecord), drawn(r, api.MostRecord-1), drawn(r, api.MostRecord)}
	for i, x := range want {
		expect(t, "Append", l.Append(x), api.OK)
		expectKept(t, d, l, want[:i+1])
	}
	for _, n := range []int{api.MostRecord + 1, api.MostRecord + 64, 2 * api.MostRecord, 1 << 22} {
		expect(t, "Append", l.Append(make([]byte, n)), api.ErrLarge)
		for at := range 3 {
			list := texts("a", "b", "c")
			list[at] = make([]byte, n)
			expect(t, "Checkpoint", l.Checkpoint(list), api.ErrLarge)
		}
		expectKept(t, d, l, want)
	}
	expect(t, "Checkpoint", l.Checkpoint(want[1:]), api.OK)
	expect(t, "Append", l.Append(want[0]), api.OK)
	expectKept(t, d, l, [][]byte{want[1], want[2], want[0]})
}

func TestWhichErrorComesFirst(t *testing.T) {
	large := make([]byte, api.MostRecord+1)
	d := made(t, 64)
	l := opened(t, d)
	expect(t, "Append", l.Append([]byte("a")), api.OK)
	d.SetFull(true)
	expect(t, "Append, large and the disk full", l.Append(large), api.ErrLarge)
	expect(t, "Checkpoint, large and the disk full", l.Checkpoint([][]byte{nil, large}), api.ErrLarge)
	d.SetFull(false)
	noRoom := [][]byte{make([]byte, api.MostRecord), large}
	expect(t, "Checkpoint, large and no room", l.Checkpoint(noRoom), api.ErrLarge)
	d.SetFuse(0)
	expect(t, "Append, large and the fuse at 0", l.Append(large), api.ErrLarge)
	expect(t, "Checkpoint, large and the fuse at 0", l.Checkpoint(noRoom), api.ErrLarge)
	expect(t, "Append, no room and the fuse at 0", l.Append(noRoom[0]), api.ErrFull)
	expect(t, "Checkpoint, no room and the fuse at 0", l.Checkpoint(noRoom[:1]), api.ErrFull)
	if d.Down() {
		t.Error("what is refused has burnt the fuse")
	}
	d.Sync()
	expect(t, "Append, large and the disk down", l.Append(large), api.ErrLarge)
	expect(t, "Append, no room and the disk down", l.Append(noRoom[0]), api.ErrFull)
	expect(t, "Checkpoint, no room and the disk down", l.Checkpoint(noRoom[:1]), api.ErrFull)
	expectRecords(t, l, texts("a"))
	expect(t, "Append, the disk down", l.Append([]byte("b")), api.ErrLost)
	expect(t, "Append, large behind ErrLost", l.Append(large), api.ErrLost)
	expect(t, "Append, no room behind ErrLost", l.Append(noRoom[0]), api.ErrLost)
	expect(t, "Checkpoint, large behind ErrLost", l.Checkpoint(noRoom), api.ErrLost)
	expectRecords(t, l, texts("a"))
}

// A log that was answered ErrFull while its disk was down, and nothing else, goes on.
func TestErrFullOfADiskThatIsDown(t *testing.T) {
	d := made(t, 64)
	l := opened(t, d)
	expect(t, "Append", l.Append([]byte("a")), api.OK)
	d.SetFuse(0)
	d.Sync()
	expect(t, "Append", l.Append(make([]byte, 5000)), api.ErrFull)
	d.Restart(nil)
	expect(t, "Append", l.Append([]byte("b")), api.OK)
	expectKept(t, d, l, texts("a", "b"))
}

func TestBehindErrLost(t *testing.T) {
	calls := []func(l *wal.Log) api.Errno{
		func(l *wal.Log) api.Errno { return l.Append([]byte("c")) },
		func(l *wal.Log) api.Errno { return l.Append(nil) },
		func(l *wal.Log) api.Errno { return l.Checkpoint(texts("c")) },
		func(l *wal.Log) api.Errno { return l.Checkpoint(nil) },
	}
	for first := range calls {
		for fuse := range 3 {
			d := made(t, 64)
			l := opened(t, d)
			expect(t, "Append", l.Append([]byte("a")), api.OK)
			expect(t, "Append", l.Append([]byte("b")), api.OK)
			d.SetFuse(fuse)
			expect(t, "the call that meets the crash", calls[first](l), api.ErrLost)
			for range 2 {
				for _, call := range calls {
					expect(t, "a call behind ErrLost", call(l), api.ErrLost)
					expectRecords(t, l, texts("a", "b"))
				}
				d.Restart(nil)
			}
			expectKept(t, d, opened(t, d), texts("a", "b"))
			next := opened(t, d)
			expect(t, "Append", next.Append([]byte("d")), api.OK)
			for _, call := range calls {
				expect(t, "a call behind ErrLost", call(l), api.ErrLost)
			}
			expectRecords(t, l, texts("a", "b"))
			expectKept(t, d, next, texts("a", "b", "d"))
		}
	}
}

func TestNilLog(t *testing.T) {
	for _, l := range []*wal.Log{nil, {}} {
		for range 2 {
			for _, r := range [][]byte{nil, []byte("a"), make([]byte, api.MostRecord+1)} {
				expect(t, "Append", l.Append(r), api.ErrArg)
				expect(t, "Checkpoint", l.Checkpoint([][]byte{r}), api.ErrArg)
			}
			expect(t, "Checkpoint", l.Checkpoint(nil), api.ErrArg)
			if got := l.Records(); len(got) != 0 {
				t.Errorf("Records: %q", got)
			}
		}
	}
}

// Rule R2: what one log is told, one on another disk doesn't hear of.
func TestLogsSideBySide(t *testing.T) {
	one, two := made(t, 64), made(t, 64)
	l, m := opened(t, one), opened(t, two)
	expect(t, "Append", l.Append([]byte("a")), api.OK)
	expectKept(t, two, m, nil)
	expect(t, "Append", m.Append([]byte("b")), api.OK)
	expectKept(t, one, l, texts("a"))
	two.SetFuse(1)
	expect(t, "Append", m.Append([]byte("c")), api.ErrLost)
	expect(t, "Append", l.Append([]byte("d")), api.OK)
	expect(t, "Checkpoint", l.Checkpoint(texts("e")), api.OK)
	expectRecords(t, m, texts("b"))
	two.Restart([]byte{1})
	two.SetFull(true)
	expect(t, "Append", l.Append([]byte("f")), api.OK)
	expectKept(t, one, l, texts("e", "f"))
	expectKept(t, two, opened(t, two), texts("b"))
	third := made(t, 64)
	expectKept(t, third, opened(t, third), nil)
}

// P9.1 says it of each record that was ever appended, by whatever log of the disk.
func TestLogsOfOneDisk(t *testing.T) {
	d := made(t, 128)
	l, m := opened(t, d), opened(t, d)
	var want [][]byte
	step := func(by *wal.Log, text string) {
		t.Helper()
		expect(t, "Append", by.Append([]byte(text)), api.OK)
		want = append(want, []byte(text))
		expectKept(t, d, by, want)
	}
	step(m, "a")
	step(l, "b")
	step(l, "c")
	step(m, "d")
	expect(t, "Checkpoint", l.Checkpoint(want[1:]), api.OK)
	want = want[1:]
	step(m, "e")
	expect(t, "Checkpoint", m.Checkpoint(texts("x")), api.OK)
	expect(t, "Checkpoint", m.Checkpoint(texts("x", "y")), api.OK)
	want = texts("x", "y")
	step(l, "z")
	expectRecords(t, m, want)
	for fuse := 0; ; fuse++ {
		n := opened(t, d)
		expect(t, "Checkpoint", n.Checkpoint(want), api.OK)
		expect(t, "Checkpoint", n.Checkpoint(want), api.OK)
		d.SetFuse(fuse)
		e := l.Checkpoint(texts("w"))
		if e == api.OK {
			d.SetFuse(-1)
			expectKept(t, d, l, texts("w"))
			return
		}
		expect(t, "Checkpoint", e, api.ErrLost)
		d.Restart(nil)
		expectKept(t, d, opened(t, d), want)
		l = opened(t, d)
	}
}

func TestWhatIsHandedInIsLeftAndNotKept(t *testing.T) {
	d := made(t, 64)
	l := opened(t, d)
	buffer := []byte("abcdefghij")
	for at := range 3 {
		record := buffer[at : at+2]
		expect(t, "Append", l.Append(record), api.OK)
	}
	spare := make([][]byte, 4, 8)
	list := spare[:2]
	list[0], list[1], spare[2], spare[3] = buffer[:3], buffer[:3], buffer[4:5], nil
	d.SetFull(true)
	expect(t, "Append", l.Append(buffer[:4]), api.ErrFull)
	expect(t, "Checkpoint", l.Checkpoint(list), api.ErrFull)
	d.SetFull(false)
	want := texts("ab", "bc", "cd")
	if string(buffer) != "abcdefghij" {
		t.Fatalf("changed: %q", buffer)
	}
	copy(buffer, "##########")
	expectKept(t, d, l, want)
	copy(buffer, "abcdefghij")
	expect(t, "Checkpoint", l.Checkpoint(list), api.OK)
	expect(t, "Append", l.Append(buffer[9:]), api.OK)
	if string(buffer) != "abcdefghij" || !same(spare, texts("abc", "abc", "e", "")) {
		t.Fatalf("changed: %q, %q", buffer, spare)
	}
	copy(buffer, "##########")
	list[0], list[1] = nil, nil
	expectKept(t, d, l, texts("abc", "abc", "j"))
}

func scribble(lists [][]byte) {
	for i, b := range lists {
		b = b[:cap(b)]
		for j := range b {
			b[j] = '#'
		}
		lists[i] = nil
	}
}

func TestWhatIsAnsweredIsNew(t *testing.T) {
	d := made(t, 64)
	l := opened(t, d)
	var want [][]byte
	for _, s := range []string{"a", "", "bc", "bc", strings.Repeat("d", 100)} {
		expect(t, "Append", l.Append([]byte(s)), api.OK)
		want = append(want, []byte(s))
	}
	for _, build := range []func() *wal.Log{
		func() *wal.Log { return l },
		func() *wal.Log { return opened(t, d) },
		func() *wal.Log { l.Checkpoint(want); return l },
		func() *wal.Log { return opened(t, d) },
	} {
		l = build()
		first, second := l.Records(), l.Records()
		scribble(first)
		if !same(second, want) {
			t.Fatalf("two answers share memory: %q", short(second))
		}
		expectKept(t, d, l, want)
		for i := range second {
			again := l.Records()
			scribble(again[i : i+1])
			again[i] = want[i]
			if !same(again, want) {
				t.Fatalf("two lists of an answer share memory: %q", short(again))
			}
		}
		more := append(l.Records(), []byte("more"))
		scribble(more)
		expectKept(t, d, l, want)
	}
}
