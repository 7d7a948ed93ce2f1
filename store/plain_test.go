package store_test

import (
	"maps"
	"math/rand"
	"slices"
	"strings"
	"testing"

	"beacon/api"
	"beacon/disk"
	"beacon/store"
)

// A second reading of the chapter: a plain table is a map, one more that a crash may
// have left, and what was told of the disk. What the chapter leaves free (how many
// operations a call has, a room greater than promised) is taken as it is answered.
type plain struct {
	t     *testing.T
	d     *disk.Disk
	s     *store.Store
	table texts   // what the batches answered OK have left
	maybe []texts // none, or what one more batch would have left
	lost  bool
	full  bool
}

func plainOn(t *testing.T, sectors int) *plain {
	t.Helper()
	p := &plain{t: t, d: made(t, sectors), table: texts{}}
	p.open()
	return p
}

// open: what is recovered is one of the two, and from then on the only one.
func (p *plain) open() {
	p.t.Helper()
	s, e := store.Open(p.d)
	if e != api.OK {
		if e != api.ErrLost || !p.d.Down() || s != nil {
			p.t.Fatalf("Open: %v, %v", s, e)
		}
		return
	}
	got := told(p.t, s)
	for _, m := range p.maybe {
		if maps.Equal(got, m) {
			p.table = m
		}
	}
	if !maps.Equal(got, p.table) {
		p.t.Fatalf("recovered %q, not %q", short(got), short(p.table))
	}
	p.s, p.maybe, p.lost = s, nil, false
}

// asked is what the chapter asks of a batch alone, word by word.
func asked(changes []store.Change) api.Errno {
	if len(changes) > 256 {
		return api.ErrArg
	}
	for _, c := range changes {
		if c.Key == "" || len(c.Key) > api.MostKey || len(c.Value) > 4*api.MostText {
			return api.ErrArg
		}
	}
	if weigh(changes) > api.MostRecord-64 {
		return api.ErrLarge
	}
	return api.OK
}

// apply holds an answer against the words, in their order, and takes the step.
func (p *plain) apply(changes []store.Change) {
	p.t.Helper()
	handed := slices.Clone(changes)
	wasDown := p.d.Down()
	next := behind(p.table, changes)
	roomy := taken(next) <= room(p.d.Sectors())
	e := p.s.Apply(changes)
	allowed := false
	switch {
	case p.lost:
		allowed = e == api.ErrLost
	case asked(changes) != api.OK:
		allowed = e == asked(changes)
	case len(changes) == 0:
		allowed = e == api.OK
	case e == api.ErrFull:
		allowed = p.full && !p.d.Down() || !roomy
	case e == api.ErrLost:
		allowed = p.d.Down()
	default:
		allowed = e == api.OK && !p.full && !p.d.Down()
	}
	if !allowed {
		p.t.Fatalf("Apply: %v (lost %v, full %v, down %v, then %v, room %v)", e, p.lost, p.full, wasDown, p.d.Down(), roomy)
	}
	if e == api.OK {
		p.table = next
	}
	if e == api.ErrLost && !p.lost {
		p.lost = true
		p.maybe = []texts{next}
	}
	if e != api.ErrLost && p.d.Waiting() != 0 {
		p.t.Fatalf("Apply: %v, and %d writes wait", e, p.d.Waiting())
	}
	if !slices.Equal(handed, changes) {
		p.t.Fatal("Apply has changed what was handed in")
	}
}

func (p *plain) setFull(full bool) {
	p.d.SetFull(full)
	p.full = full
}

// agree: whatever was answered last, the table tells what the batches have left.
func (p *plain) agree(from, to string) {
	p.t.Helper()
	expectTable(p.t, p.s, p.table)
	var keys []string
	for _, k := range sorted(p.table) {
		if k >= from && (to == "" || k < to) {
			keys = append(keys, k)
		}
	}
	if got := p.s.Keys(from, to); !slices.Equal(got, keys) {
		p.t.Fatalf("Keys(%q, %q): %q, not %q", from, to, got, keys)
	}
	v, ok := p.s.Get(from)
	if want, there := p.table[from]; v != want || ok != there {
		p.t.Fatalf("Get(%q): %q, %v, not %q, %v", from, v, ok, want, there)
	}
}

// restart is a crash, with the table opened again, by and by: crashes within Open too.
func (p *plain) restart(choices []byte, again int) {
	p.t.Helper()
	p.d.Restart(choices)
	for fuse := range again {
		p.d.SetFuse(fuse)
		p.open()
		p.d.Restart(choices)
	}
	p.open()
}

func drawnKey(r *rand.Rand) string {
	switch r.Intn(12) {
	case 0:
		return drawn(r, 1+r.Intn(3))
	case 1:
		return strings.Repeat("k", api.MostKey)
	case 2:
		return keyring()[r.Intn(len(keyring()))]
	}
	return []string{"a", "b", "c", "aa", "ab"}[r.Intn(5)]
}

func drawnBatch(r *rand.Rand) (out []store.Change) {
	for range 1 + r.Intn(4)*r.Intn(2) {
		c := lay(drawnKey(r), drawn(r, r.Intn(40)))
		switch r.Intn(12) {
		case 0, 1, 2, 3:
			c.Gone = true
		case 4:
			c.Value = strings.Repeat("\x00", r.Intn(200))
		case 5:
			c.Value = ""
		}
		out = append(out, c)
	}
	return out
}

// oddBatch is one at the edges: too long, too large, wrong, or of none.
func oddBatch(r *rand.Rand) []store.Change {
	switch r.Intn(8) {
	case 0:
		return nil
	case 1:
		return append(drawnBatch(r), lay("", "x"))
	case 2:
		return append(drawnBatch(r), drop(strings.Repeat("k", api.MostKey+1)))
	case 3:
		return append(drawnBatch(r), store.Change{Key: "a", Value: strings.Repeat("v", 4*api.MostText+r.Intn(2)), Gone: true})
	case 4:
		return slices.Repeat(batch(lay("a", drawn(r, 30))), 255+r.Intn(3))
	case 5:
		return weighing(r, 2+r.Intn(255), api.MostRecord-64+r.Intn(2), r.Intn(2) == 0)
	case 6:
		return many(r.Intn(300), drawn(r, r.Intn(20)))
	}
	// A table that would be too great, but for the last change.
	return append(batch(lay("a", strings.Repeat("v", 4*api.MostText))), drop("a"))
}

func drawnChoices(r *rand.Rand, n int) []byte {
	out := make([]byte, n)
	way := r.Intn(3)
	for i := range out {
		out[i] = byte(r.Intn(5))
		if way > 0 && r.Intn(4) > 0 {
			out[i] = 1
		}
	}
	return out
}

func (p *plain) call(r *rand.Rand) {
	p.t.Helper()
	switch n := r.Intn(50); {
	case n < 28:
		p.apply(drawnBatch(r))
	case n < 31:
		p.apply(oddBatch(r))
	case n < 33: // all that is there is taken away
		var all []store.Change
		for _, k := range p.s.Keys("", "") {
			all = append(all, drop(k))
		}
		p.apply(all[:min(len(all), 256)])
	case n < 36:
		p.setFull(r.Intn(3) == 0)
	case n < 40:
		p.d.SetFuse(r.Intn(16) - 3)
	case n < 42:
		if !p.d.Down() {
			p.open()
		} else {
			refuseOpen(p.t, p.d, api.ErrLost)
		}
	default:
		p.restart(drawnChoices(r, p.d.Waiting()), r.Intn(3)*r.Intn(2))
	}
}

func TestDrawnCalls(t *testing.T) {
	for seed := range int64(500) {
		r := rand.New(rand.NewSource(seed))
		p := plainOn(t, []int{64, 65, 66, 80, 129, 600}[r.Intn(6)])
		for range 200 {
			p.call(r)
			p.agree(drawnKey(r), []string{"", drawnKey(r)}[r.Intn(2)])
		}
	}
}

func TestDrawnCallsOfAGreatDisk(t *testing.T) {
	r := rand.New(rand.NewSource(12))
	p := plainOn(t, api.MostItems)
	for range 600 {
		p.call(r)
		p.agree(drawnKey(r), drawnKey(r))
	}
}

// FuzzCalls reads a story of calls out of bytes.
func FuzzCalls(f *testing.F) {
	f.Add([]byte{0, 1, 10, 0, 2, 20, 3, 5, 0, 40, 5, 3, 1, 2, 3, 1, 2})
	f.Add([]byte{1, 1, 2, 9, 70, 3, 2, 0, 130, 5, 2, 2, 2, 4, 1, 0, 9, 4, 0, 0, 9})
	f.Fuzz(func(t *testing.T, story []byte) {
		next := func() (out int) {
			if len(story) > 0 {
				out, story = int(story[0]), story[1:]
			}
			return out
		}
		change := func() store.Change {
			kind, size := next(), next()
			return store.Change{Key: strings.Repeat(string([]byte{byte(kind)}), kind%5), Value: strings.Repeat("v", size), Gone: kind%3 == 0}
		}
		p := plainOn(t, 64+next()%4)
		for calls := 0; len(story) > 0 && calls < 100; calls++ {
			switch next() % 6 {
			case 0, 1, 2:
				var changes []store.Change
				for range next() % 4 {
					changes = append(changes, change())
				}
				p.apply(changes)
			case 3:
				p.d.SetFuse(next()%16 - 2)
			case 4:
				p.setFull(next()%2 == 1)
			case 5:
				again, n := next()%2, next()%8
				choices := story[:min(n, len(story))]
				story = story[len(choices):]
				p.restart(choices, again)
			}
			p.agree(change().Key, change().Key)
		}
	})
}
