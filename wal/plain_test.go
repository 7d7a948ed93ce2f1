package wal_test

import (
	"math/rand"
	"testing"

	"beacon/api"
	"beacon/disk"
	"beacon/wal"
)

// A second reading of the chapter: a plain log is a list of records, one more that
// a crash may have left, and what was told of the disk. What the chapter leaves
// free (how many operations a call has, a room greater than promised) is taken as
// it is answered.
type plain struct {
	t       *testing.T
	d       *disk.Disk
	l       *wal.Log
	records [][]byte   // what the calls answered OK have left
	maybe   [][][]byte // none, or what one more step would have left
	lost    bool
	full    bool
}

func plainOn(t *testing.T, sectors int) *plain {
	t.Helper()
	p := &plain{t: t, d: made(t, sectors)}
	p.open()
	return p
}

// open: what is recovered is one of the two, and from then on the only one.
func (p *plain) open() {
	p.t.Helper()
	l, e := wal.Open(p.d)
	if e != api.OK {
		if e != api.ErrLost || !p.d.Down() || l != nil {
			p.t.Fatalf("Open: %v, %v", l, e)
		}
		return
	}
	got := l.Records()
	for _, m := range p.maybe {
		if same(got, m) {
			p.records = m
		}
	}
	if !same(got, p.records) {
		p.t.Fatalf("recovered %q, not %q", short(got), short(p.records))
	}
	p.l, p.maybe, p.lost = l, nil, false
}

// does holds an answer against the words, in their order, and takes the step.
func (p *plain) does(s step, large bool) {
	p.t.Helper()
	wasDown := p.d.Down()
	behind := s.leave(p.records)
	roomy := taken(behind) <= room(p.d.Sectors())
	e := s.call(p.l)
	allowed := e == api.OK && !p.full && !p.d.Down()
	switch {
	case p.lost:
		allowed = e == api.ErrLost
	case large:
		allowed = e == api.ErrLarge
	case e == api.ErrFull:
		allowed = p.full && !p.d.Down() || !roomy
	case e == api.ErrLost:
		allowed = p.d.Down()
	}
	if !allowed {
		p.t.Fatalf("%s: %v (lost %v, large %v, full %v, down %v, then %v, room %v)",
			s.name, e, p.lost, large, p.full, wasDown, p.d.Down(), roomy)
	}
	if e == api.OK {
		p.records = behind
	}
	if e == api.ErrLost && !p.lost {
		p.lost = true
		p.maybe = [][][]byte{behind}
	}
	if e != api.ErrLost && p.d.Waiting() != 0 {
		p.t.Fatalf("%s: %v, and %d writes wait", s.name, e, p.d.Waiting())
	}
}

func (p *plain) append(record []byte) {
	p.t.Helper()
	p.does(appending("drawn", record), len(record) > api.MostRecord)
}

func (p *plain) checkpoint(list [][]byte) {
	p.t.Helper()
	large := false
	for _, r := range list {
		large = large || len(r) > api.MostRecord
	}
	p.does(checkpointing("drawn", list...), large)
}

func (p *plain) setFull(full bool) {
	p.d.SetFull(full)
	p.full = full
}

// agree: whatever was answered last, the log tells the records ahead of the crash.
func (p *plain) agree() {
	p.t.Helper()
	if got := p.l.Records(); !same(got, p.records) {
		p.t.Fatalf("records %q, not %q", short(got), short(p.records))
	}
}

// restart is a crash, with the log opened again, by and by: crashes within Open too.
func (p *plain) restart(choices []byte, again int) {
	p.t.Helper()
	p.d.Restart(choices)
	for fuse := range again {
		p.d.SetFuse(fuse)
		p.open()
		p.d.Restart(choices)
	}
	p.open()
}

func drawnRecord(r *rand.Rand) []byte {
	switch r.Intn(10) {
	case 0:
		return nil
	case 1:
		return drawn(r, sizes()[r.Intn(len(sizes()))])
	case 2:
		return make([]byte, r.Intn(130))
	case 3, 4:
		return patch([]string{"A", "AB", "ABCD", "ABXD", "XBCD", "ABC"}[r.Intn(6)])
	}
	return drawn(r, r.Intn(200))
}

func drawnList(r *rand.Rand) (out [][]byte) {
	for range r.Intn(6) {
		out = append(out, drawnRecord(r))
	}
	if r.Intn(30) == 0 {
		out = append(out, make([]byte, 30000))
	}
	if r.Intn(30) == 0 {
		out = append(out, make([]byte, api.MostRecord+1))
	}
	return out
}

func drawnChoices(r *rand.Rand, n int) []byte {
	out := make([]byte, n)
	way := r.Intn(3)
	for i := range out {
		out[i] = byte(r.Intn(5))
		if way > 0 && r.Intn(4) > 0 {
			out[i] = 1
		}
	}
	return out
}

func (p *plain) call(r *rand.Rand) {
	p.t.Helper()
	switch n := r.Intn(40); {
	case n < 18:
		p.append(drawnRecord(r))
	case n < 19:
		p.append(make([]byte, api.MostRecord+r.Intn(2)))
	case n < 25:
		p.checkpoint(drawnList(r))
	case n < 26:
		p.checkpoint(p.l.Records())
	case n < 29:
		p.setFull(r.Intn(3) == 0)
	case n < 33:
		p.d.SetFuse(r.Intn(16) - 3)
	case n < 35:
		if !p.d.Down() {
			p.open()
		} else {
			refuseOpen(p.t, p.d, api.ErrLost)
		}
	default:
		p.restart(drawnChoices(r, p.d.Waiting()), r.Intn(3)*r.Intn(2))
	}
}

func TestDrawnCalls(t *testing.T) {
	for seed := range int64(600) {
		r := rand.New(rand.NewSource(seed))
		p := plainOn(t, []int{64, 65, 66, 80, 129, 600}[r.Intn(6)])
		for range 150 {
			p.call(r)
			p.agree()
		}
	}
}

func TestDrawnCallsOfAGreatDisk(t *testing.T) {
	r := rand.New(rand.NewSource(105))
	p := plainOn(t, api.MostItems)
	for range 600 {
		p.call(r)
		p.agree()
	}
}

// FuzzCalls reads a story of calls out of bytes.
func FuzzCalls(f *testing.F) {
	f.Add([]byte{0, 1, 10, 0, 2, 20, 3, 5, 0, 40, 5, 3, 1, 2, 3, 1, 2})
	f.Add([]byte{1, 1, 2, 9, 70, 3, 2, 0, 130, 5, 2, 2, 2, 4, 1, 0, 9, 4, 0, 0, 9})
	f.Fuzz(func(t *testing.T, story []byte) {
		next := func() (out int) {
			if len(story) > 0 {
				out, story = int(story[0]), story[1:]
			}
			return out
		}
		record := func() []byte {
			size, letter := next(), byte(next())
			out := make([]byte, size)
			for i := range out {
				out[i] = letter * byte(i/32)
			}
			return out
		}
		p := plainOn(t, 64+next()%4)
		for calls := 0; len(story) > 0 && calls < 100; calls++ {
			switch next() % 6 {
			case 0, 1:
				p.append(record())
			case 2:
				var list [][]byte
				for range next() % 4 {
					list = append(list, record())
				}
				p.checkpoint(list)
			case 3:
				p.d.SetFuse(next()%16 - 2)
			case 4:
				p.setFull(next()%2 == 1)
			case 5:
				again, n := next()%2, next()%8
				choices := story[:min(n, len(story))]
				story = story[len(choices):]
				p.restart(choices, again)
			}
			p.agree()
		}
	})
}
