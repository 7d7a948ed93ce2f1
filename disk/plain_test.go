package disk_test

import (
	"math"
	"math/rand"
	"slices"
	"testing"

	"beacon/api"
	"beacon/disk"
)

// A second reading of the chapter: a plain disk keeps no sectors, but the story of
// all that was ever done to them, and tells a sector by going through it.

type deed struct {
	sector   int
	from, to int // which of the bytes are written
	data     [64]byte
}

type plain struct {
	sectors int
	story   []deed
	list    []deed
	full    bool
	fuse    []int // none, or one
	down    bool
}

func (p *plain) lost() bool {
	if p.down {
		return true
	}
	if len(p.fuse) == 0 {
		return false
	}
	if p.fuse[0] == 0 {
		p.down = true
		return true
	}
	p.fuse[0]--
	return false
}

func (p *plain) Write(sector int, data [64]byte) api.Errno {
	switch {
	case sector < 0 || sector >= p.sectors:
		return api.ErrArg
	case p.lost():
		return api.ErrLost
	case p.full:
		return api.ErrFull
	}
	p.list = append(p.list, deed{sector, 0, 64, data})
	return api.OK
}

func (p *plain) Sync() api.Errno {
	if p.lost() {
		return api.ErrLost
	}
	p.story, p.list = append(p.story, p.list...), nil
	return api.OK
}

func (p *plain) Read(sector int) (out [64]byte, e api.Errno) {
	if sector < 0 || sector >= p.sectors {
		return out, api.ErrArg
	}
	if p.down {
		return out, api.ErrLost
	}
	for _, d := range slices.Concat(p.story, p.list) {
		for i := d.from; i < d.to && d.sector == sector; i++ {
			out[i] = d.data[i]
		}
	}
	return out, api.OK
}

func (p *plain) SetFuse(operations int) {
	p.fuse = nil
	if operations >= 0 {
		p.fuse = []int{operations}
	}
}

func (p *plain) Restart(choices []byte) {
	for i, d := range p.list {
		if i >= len(choices) {
			break
		}
		switch choices[i] {
		case 1:
			p.story = append(p.story, d)
		case 2:
			p.story = append(p.story, deed{d.sector, 0, 32, d.data})
		case 3:
			p.story = append(p.story, deed{d.sector, 32, 64, d.data})
		}
	}
	p.list, p.fuse, p.down = nil, nil, false
}

// both are a disk and its plain reading, called alike.
type both struct {
	t *testing.T
	d *disk.Disk
	p *plain
}

func twin(t *testing.T, sectors int) both {
	return both{t, made(t, sectors), &plain{sectors: sectors}}
}

func (b both) write(sector int, data [64]byte) {
	b.t.Helper()
	if got, want := b.d.Write(sector, data), b.p.Write(sector, data); got != want {
		b.t.Fatalf("Write(%d): %v, not %v", sector, got, want)
	}
}

func (b both) sync() {
	b.t.Helper()
	if got, want := b.d.Sync(), b.p.Sync(); got != want {
		b.t.Fatalf("Sync: %v, not %v", got, want)
	}
}

func (b both) read(sector int) {
	b.t.Helper()
	got, e := b.d.Read(sector)
	if want, f := b.p.Read(sector); got != want || e != f {
		b.t.Fatalf("Read(%d): %x, %v, not %x, %v", sector, got, e, want, f)
	}
}

func (b both) setFull(full bool) {
	b.d.SetFull(full)
	b.p.full = full
}

func (b both) setFuse(operations int) {
	b.d.SetFuse(operations)
	b.p.SetFuse(operations)
}

func (b both) restart(choices []byte) {
	b.d.Restart(choices)
	b.p.Restart(choices)
}

// agree holds all that can be asked without changing anything.
func (b both) agree() {
	b.t.Helper()
	if b.d.Down() != b.p.down || b.d.Waiting() != len(b.p.list) || b.d.Sectors() != b.p.sectors {
		b.t.Fatalf("Down %v, Waiting %d, Sectors %d, not %v, %d, %d",
			b.d.Down(), b.d.Waiting(), b.d.Sectors(), b.p.down, len(b.p.list), b.p.sectors)
	}
	for s := -1; s <= b.p.sectors; s++ {
		b.read(s)
	}
}

func drawnSector(r *rand.Rand, sectors int) int {
	switch r.Intn(12) {
	case 0:
		return []int{-1, sectors, math.MinInt, math.MaxInt}[r.Intn(4)]
	case 1:
		return sectors - 1
	}
	return r.Intn(sectors)
}

func drawnChoices(r *rand.Rand) []byte {
	out := make([]byte, r.Intn(9))
	for i := range out {
		out[i] = byte(r.Intn(5))
	}
	if len(out) > 0 && r.Intn(8) == 0 {
		out[r.Intn(len(out))] = byte(r.Intn(256))
	}
	return out
}

func drawnData(r *rand.Rand) (out [64]byte) {
	for i := range out {
		out[i] = byte(r.Intn(256))
	}
	return out
}

func (b both) call(r *rand.Rand) {
	b.t.Helper()
	switch n := r.Intn(40); {
	case n < 22:
		b.write(drawnSector(r, b.p.sectors), drawnData(r))
	case n < 27:
		b.sync()
	case n < 31:
		b.read(drawnSector(r, b.p.sectors))
	case n < 33:
		b.setFull(r.Intn(3) == 0)
	case n < 37:
		b.setFuse(r.Intn(14) - 3)
	default:
		b.restart(drawnChoices(r))
	}
}

func TestDrawnCalls(t *testing.T) {
	for seed := range int64(400) {
		r := rand.New(rand.NewSource(seed))
		b := twin(t, 1+r.Intn(6))
		for range 120 {
			b.call(r)
			b.agree()
		}
	}
}

func TestDrawnCallsOfAGreatDisk(t *testing.T) {
	r := rand.New(rand.NewSource(81))
	b := twin(t, api.MostItems)
	for range 3000 {
		b.call(r)
	}
	b.restart([]byte{3, 2, 1})
	for range 200 {
		b.read(drawnSector(r, api.MostItems))
	}
	for _, d := range b.p.story {
		b.read(d.sector)
	}
}

// DOC.md's P2, for the disk: one story crashes at each of its operations, and what
// wasn't synced is kept, torn or dropped in each way there is.
func TestEachCrashOfAStory(t *testing.T) {
	story := []int{0, 1, -1, 1, 2, 1, 0, -1, 2, 2, -1} // sectors that are written; -1: Sync
	for fuse := range len(story) + 2 {
		for ways := range 256 {
			b := twin(t, 3)
			b.setFuse(fuse)
			for i, sector := range story {
				if sector < 0 {
					b.sync()
				} else {
					b.write(sector, filled(byte(i+1)))
				}
			}
			if b.d.Down() != (fuse < len(story)) {
				t.Fatalf("fuse %d: Down %v", fuse, b.d.Down())
			}
			b.restart([]byte{byte(ways & 3), byte(ways >> 2 & 3), byte(ways >> 4 & 3), byte(ways >> 6)})
			b.agree()
			b.write(0, filled(99))
			b.sync()
			b.agree()
		}
	}
}

// FuzzCalls reads a story of calls out of bytes.
func FuzzCalls(f *testing.F) {
	f.Add([]byte{4, 0, 1, 1, 0, 4, 1, 2, 0, 1, 1, 5, 2, 1, 2})
	f.Add([]byte{1, 2, 1, 0, 0, 1, 3, 3, 0, 5, 4, 1, 2, 3, 1})
	f.Fuzz(func(t *testing.T, story []byte) {
		next := func() (out int) {
			if len(story) > 0 {
				out, story = int(story[0]), story[1:]
			}
			return out
		}
		b := twin(t, 1+next()%8)
		for calls := 0; len(story) > 0 && calls < 200; calls++ {
			switch next() % 6 {
			case 0:
				b.write(next()%10-1, filled(byte(next())))
			case 1:
				b.sync()
			case 2:
				b.setFuse(next()%8 - 2)
			case 3:
				b.setFull(next()%2 == 0)
			case 4:
				b.read(next()%10 - 1)
			case 5:
				n := min(next()%6, len(story))
				b.restart(story[:n])
				story = story[n:]
			}
			b.agree()
		}
	})
}
