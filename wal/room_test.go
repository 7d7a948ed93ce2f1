package wal_test

import (
	"math/rand"
	"testing"

	"beacon/api"
	"beacon/disk"
	"beacon/wal"
)

// room is what the chapter promises, in the reading that asks for more on a disk
// of an odd number of sectors: (n / 2 - 8) * 32, rounded down at the end alone.
func room(sectors int) int { return 16*sectors - 256 }

func taken(records [][]byte) (n int) {
	for _, r := range records {
		n += len(r) + 64
	}
	return n
}

// filling are records of one size, as many as there is room for, and one that
// takes the rest to the last byte.
func filling(r *rand.Rand, sectors, size int) (out [][]byte) {
	left := room(sectors)
	for left >= 2*(size+64) {
		out = append(out, drawn(r, size))
		left -= size + 64
	}
	return append(out, drawn(r, min(left-64, api.MostRecord)))
}

// fillers lay a log of these records on a new disk, each by other calls.
func fillers() []func(l *wal.Log, records [][]byte) api.Errno {
	appends := func(l *wal.Log, records [][]byte) api.Errno {
		for _, r := range records {
			if e := l.Append(r); e != api.OK {
				return e
			}
		}
		return api.OK
	}
	return []func(l *wal.Log, records [][]byte) api.Errno{
		appends,
		func(l *wal.Log, records [][]byte) api.Errno { return l.Checkpoint(records) },
		func(l *wal.Log, records [][]byte) api.Errno {
			l.Checkpoint(nil)
			return appends(l, records)
		},
		func(l *wal.Log, records [][]byte) api.Errno {
			half := len(records) / 2
			if e := l.Checkpoint(records[:half]); e != api.OK {
				return e
			}
			return appends(l, records[half:])
		},
		func(l *wal.Log, records [][]byte) api.Errno {
			appends(l, records)
			l.Checkpoint(records)
			if e := l.Checkpoint(records[:1]); e != api.OK {
				return e
			}
			return appends(l, records[1:])
		},
	}
}

// overfill appends till ErrFull is answered, and asks that nothing is changed by it.
func overfill(t *testing.T, d *disk.Disk, l *wal.Log, want [][]byte, more []byte) {
	t.Helper()
	before := ""
	for {
		before = imageOf(t, d)
		e := l.Append(more)
		if e == api.ErrFull {
			break
		}
		expect(t, "Append", e, api.OK)
		want = append(want, more)
		if taken(want) > 2*64*d.Sectors()+1000 {
			t.Fatalf("%d sectors hold %d bytes", d.Sectors(), taken(want))
		}
	}
	for range 2 {
		expect(t, "Append", l.Append(more), api.ErrFull)
		expect(t, "Checkpoint", l.Checkpoint([][]byte{make([]byte, api.MostRecord)}), api.ErrFull)
	}
	if imageOf(t, d) != before || d.Waiting() != 0 {
		t.Fatalf("%d sectors: ErrFull has changed the disk", d.Sectors())
	}
	expectKept(t, d, l, want)
	expect(t, "Append behind a restart", opened(t, d).Append(more), api.ErrFull)
	expect(t, "Checkpoint of the log that lies there", l.Checkpoint(want), api.OK)
	expectKept(t, d, l, want)
	expect(t, "Checkpoint", l.Checkpoint(texts("x")), api.OK)
	expect(t, "Append", l.Append(more), api.OK)
	expectKept(t, d, l, [][]byte{[]byte("x"), more})
}

func TestRoom(t *testing.T) {
	r := rand.New(rand.NewSource(93))
	for _, n := range []int{64, 65, 66, 67, 68, 100, 127, 128, 129, 255, 256} {
		for _, size := range append(sizes(), 200, 704) {
			for way, fill := range fillers() {
				d := made(t, n)
				l := opened(t, d)
				want := filling(r, n, min(size, room(n)-64))
				if taken(want) != room(n) {
					t.Fatalf("%d sectors: filled with %d of %d bytes", n, taken(want), room(n))
				}
				if e := fill(l, want); e != api.OK {
					t.Fatalf("%d sectors, %d bytes, way %d: %v", n, size, way, e)
				}
				expectKept(t, d, l, want)
				overfill(t, d, l, want, drawn(r, max(size, 1)))
			}
		}
	}
}

func TestRoomForEmptyRecords(t *testing.T) {
	for _, n := range []int{64, 65, 1000, 1001} {
		d := made(t, n)
		l := opened(t, d)
		want := make([][]byte, room(n)/64)
		for range want {
			expect(t, "Append", l.Append(nil), api.OK)
		}
		expectKept(t, d, l, want)
		expect(t, "Checkpoint", l.Checkpoint(want), api.OK)
		expectKept(t, d, l, want)
		overfill(t, d, l, want, nil)
	}
}

func TestRoomOfGreatDisks(t *testing.T) {
	r := rand.New(rand.NewSource(94))
	for _, n := range []int{api.MostItems - 1, api.MostItems} {
		for _, size := range []int{1, 700, api.MostRecord} {
			for _, way := range []int{0, 1, 3} {
				d := made(t, n)
				l := opened(t, d)
				want := filling(r, n, size)
				expect(t, "filling", fillers()[way](l, want), api.OK)
				expectKept(t, d, l, want)
			}
		}
	}
}

func TestOverfillingAGreatDisk(t *testing.T) {
	r := rand.New(rand.NewSource(95))
	for _, size := range []int{65, 5000, api.MostRecord} {
		d := made(t, api.MostItems)
		l := opened(t, d)
		more := drawn(r, size)
		var want [][]byte
		for range api.MostItems {
			e := l.Append(more)
			if e == api.ErrFull {
				break
			}
			expect(t, "Append", e, api.OK)
			want = append(want, more)
		}
		if n := taken(want); n+size+64 <= room(api.MostItems) || n > 3*room(api.MostItems) {
			t.Fatalf("ErrFull behind %d bytes", n)
		}
		expectKept(t, d, l, want)
		expect(t, "Checkpoint of the log that lies there", l.Checkpoint(want), api.OK)
		expectKept(t, d, l, want)
	}
}

func TestCheckpointOfMoreThanThereIsRoomFor(t *testing.T) {
	r := rand.New(rand.NewSource(96))
	for _, n := range []int{64, 65, 300, api.MostItems} {
		d := made(t, n)
		l := opened(t, d)
		refuse := func(list [][]byte) {
			t.Helper()
			before, kept := imageOf(t, d), l.Records()
			expect(t, "Checkpoint", l.Checkpoint(list), api.ErrFull)
			if imageOf(t, d) != before {
				t.Fatalf("%d sectors: ErrFull has changed the disk", n)
			}
			expectKept(t, d, l, kept)
		}
		great := drawn(r, api.MostRecord)
		var many [][]byte
		for size := 0; size <= 64*n; size += len(great) {
			many = append(many, great)
		}
		refuse(many)
		refuse(make([][]byte, 1<<20))
		expect(t, "Append", l.Append([]byte("a")), api.OK)
		refuse(many)
		expect(t, "Checkpoint", l.Checkpoint(texts("b", "c")), api.OK)
		refuse(many)
		refuse(make([][]byte, 1<<20))
		expect(t, "Append", l.Append([]byte("d")), api.OK)
		expectKept(t, d, l, texts("b", "c", "d"))
	}
}

func TestFullDisk(t *testing.T) {
	for _, laid := range [][][]byte{nil, texts("a"), texts("a", "b", "c")} {
		for _, checkpoints := range []int{0, 1, 2, 3} {
			d := made(t, 64)
			l := opened(t, d)
			for range checkpoints {
				expect(t, "Checkpoint", l.Checkpoint(texts("gone")), api.OK)
			}
			if checkpoints > 0 {
				expect(t, "Checkpoint", l.Checkpoint(nil), api.OK)
			}
			expect(t, "Append", fillers()[0](l, laid), api.OK)
			before := imageOf(t, d)
			d.SetFull(true)
			for range 2 {
				expect(t, "Append", l.Append([]byte("x")), api.ErrFull)
				expect(t, "Append", l.Append(nil), api.ErrFull)
				expect(t, "Append", l.Append(make([]byte, 300)), api.ErrFull)
				expect(t, "Checkpoint", l.Checkpoint(nil), api.ErrFull)
				expect(t, "Checkpoint", l.Checkpoint(laid), api.ErrFull)
				expect(t, "Checkpoint", l.Checkpoint(texts("x", "y")), api.ErrFull)
				expectKept(t, d, l, laid)
			}
			if imageOf(t, d) != before {
				t.Fatal("ErrFull has changed the disk")
			}
			d.SetFull(false)
			expect(t, "Append", l.Append([]byte("x")), api.OK)
			want := append(laid[:len(laid):len(laid)], []byte("x"))
			expectKept(t, d, l, want)
			d.SetFull(true)
			expect(t, "Checkpoint", l.Checkpoint(nil), api.ErrFull)
			d.SetFull(false)
			expect(t, "Checkpoint", l.Checkpoint(texts("y")), api.OK)
			expectKept(t, d, l, texts("y"))
		}
	}
}

// The log goes round: far more is laid than the disk has room for at once.
func TestManyTurns(t *testing.T) {
	r := rand.New(rand.NewSource(97))
	for _, n := range []int{64, 65, 130} {
		d := made(t, n)
		l := opened(t, d)
		var want [][]byte
		for round := range 1500 {
			more := drawn(r, r.Intn(150))
			if taken(want)+taken([][]byte{more}) > room(n) {
				want = want[len(want)-r.Intn(min(len(want), 4)):]
				expect(t, "Checkpoint", l.Checkpoint(want), api.OK)
				expectKept(t, d, l, want)
				continue
			}
			expect(t, "Append", l.Append(more), api.OK)
			want = append(want, more)
			expectRecords(t, l, want)
			if round%3 == 0 {
				expectKept(t, d, l, want)
			}
			if round%7 == 0 {
				l = opened(t, d)
			}
		}
	}
}

func TestCheckpoints(t *testing.T) {
	for _, n := range []int{64, 67, 200} {
		d := made(t, n)
		l := opened(t, d)
		lists := [][][]byte{nil, texts("one"), texts("a", "b", "c", "d", "e", "f", "g"), nil, nil, texts(""), texts("", "", ""),
			texts("a"), texts("a"), {make([]byte, 300)}, texts("a", "", "b")}
		for range 3 {
			for i, list := range lists {
				expect(t, "Checkpoint", l.Checkpoint(list), api.OK)
				expectKept(t, d, l, list)
				want := list
				for _, more := range texts("x", "", "a")[:i%4] {
					expect(t, "Append", l.Append(more), api.OK)
					want = append(want[:len(want):len(want)], more)
					expectKept(t, d, l, want)
				}
				if i%5 == 0 {
					l = opened(t, d)
				}
			}
		}
	}
}
