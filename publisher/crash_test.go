package publisher_test

import (
	"bytes"
	"fmt"
	"math/rand"
	"sync/atomic"
	"testing"

	"beacon/api"
	"beacon/disk"
	"beacon/publisher"
)

// P16.5, P16.6 and P2: what is durable, and what is recovered behind a crash.

var secret = [32]byte{1}

// call is one that changes something, and what it does to a publisher.
type call struct {
	name string
	do   func(d doer) []any
}

func submits(u api.Update) call {
	return call{fmt.Sprint("Submit ", u.Account), func(d doer) []any { return all(d.Submit(u)) }}
}

func ticks(batch int) call {
	return call{fmt.Sprint("Tick ", batch), func(d doer) []any { return all(d.Tick(batch)) }}
}

func rotates(b byte) call {
	return call{fmt.Sprint("Rotate ", b), func(d doer) []any { return all(d.Rotate([32]byte{b})) }}
}

func errnoOf(answer []any) any { return answer[len(answer)-1] }

// crashNames are the accounts of the stories in this file.
var crashNames = []string{"a", "b", "c"}

// expectLost asks that a publisher whose disk was lost tells what it told ahead of
// that, and does nothing.
func expectLost(t *testing.T, p *publisher.Publisher, ahead []any) {
	t.Helper()
	expect(t, "what is told behind ErrLost", told(p, crashNames...), ahead)
	for _, u := range []api.Update{update("a", 50), update("c", 50)} {
		n, e := p.Submit(u)
		expect(t, "Submit behind ErrLost", all(n, e), all(0, api.ErrLost))
	}
	if p.Moving() > 0 || len(p.Queue()) > 0 {
		r, done, e := p.Tick(1)
		expect(t, "Tick behind ErrLost", all(r, done, e), all(api.Root{}, false, api.ErrLost))
	}
	if p.Moving() == 0 {
		c, e := p.Rotate([32]byte{50})
		expect(t, "Rotate behind ErrLost", all(c, e), all(api.Cert{}, api.ErrLost))
	}
	expect(t, "what is told behind ErrLost", told(p, crashNames...), ahead)
}

// mixtures are disks as a crash can leave them, of two: none has kept nothing of what
// waited, and whole all of it. If these differ in one sector, they are all there can
// be; else some.
func mixtures(t *testing.T, r *rand.Rand, none, whole *disk.Disk) (out []*disk.Disk) {
	var differ []int
	for i := range none.Sectors() {
		a, _ := none.Read(i)
		b, _ := whole.Read(i)
		if a != b {
			differ = append(differ, i)
		}
	}
	mix := func(choice func(i int) int) {
		d := copyOf(t, none)
		for i, sector := range differ {
			data, _ := d.Read(sector)
			from, _ := whole.Read(sector)
			switch choice(i) {
			case 1:
				data = from
			case 2:
				copy(data[:32], from[:32])
			case 3:
				copy(data[32:], from[32:])
			}
			d.Write(sector, data)
		}
		d.Sync()
		out = append(out, d)
	}
	if len(differ) <= 1 {
		for all := range 1 << (2 * len(differ)) {
			mix(func(int) int { return all })
		}
		return out
	}
	for all := range 4 {
		mix(func(int) int { return all })
		one, unlike := r.Intn(len(differ)), r.Intn(4)
		mix(func(i int) int {
			if i == one {
				return unlike
			}
			return all
		})
	}
	for range 2 {
		mix(func(int) int { return r.Intn(4) })
	}
	return out
}

// imageOf is all that stands on a disk.
func imageOf(d *disk.Disk) string {
	var out []byte
	for i := range d.Sectors() {
		data, _ := d.Read(i)
		out = append(out, data[:]...)
	}
	return string(out)
}

// end goes on with a publisher till nothing waits, and answers all that is told then.
func end(d doer) []any {
	for range 100 {
		if d.Moving() == 0 && len(d.Queue()) == 0 {
			break
		}
		d.Tick(2)
	}
	return append(told(d, crashNames...), shown(d, "a")...)
}

// lost is what is answered instead of such an answer, when the disk is lost.
func lost(answer []any) []any {
	out := all(0, api.ErrLost)
	switch answer[0].(type) {
	case api.Root:
		out = all(api.Root{}, false, api.ErrLost)
	case api.Cert:
		out = all(api.Cert{}, api.ErrLost)
	}
	return out
}

// crashes does the call on copies of the disk with the fuse at each operation, and
// asks what is promised of what is recovered, whatever is kept of what waits then. It
// counts how often the call was there then, and how often it wasn't.
func crashes(t *testing.T, r *rand.Rand, start *disk.Disk, c call) (done, undone int) {
	t.Helper()
	text := func(v []any) string { return fmt.Sprint(v...) }
	run := func(fuse int) (*disk.Disk, *publisher.Publisher, []any) {
		d := copyOf(t, start)
		p := opened(t, d, secret)
		d.SetFuse(fuse)
		return d, p, c.do(p)
	}
	ahead := told(opened(t, start, secret), crashNames...)
	_, p, answer := run(-1)
	behind := told(p, crashNames...)
	aheadEnd, behindEnd := text(end(opened(t, copyOf(t, start), secret))), text(end(p))
	seen := map[string]bool{}
	for fuse := 0; ; fuse++ {
		none, p, got := run(fuse)
		if errnoOf(got) == api.OK {
			expect(t, c.name, got, answer)
			none.Restart(nil)
			expect(t, "what is recovered", told(opened(t, none, secret), crashNames...), behind)
			return done, undone
		}
		expect(t, c.name, got, lost(answer))
		expectLost(t, p, ahead)
		none.Restart(nil)
		expectLost(t, p, ahead) // also when the disk is there again
		whole, _, _ := run(fuse)
		whole.Restart(bytes.Repeat([]byte{1}, whole.Waiting()))
		for _, d := range mixtures(t, r, none, whole) {
			if seen[imageOf(d)] {
				continue
			}
			seen[imageOf(d)] = true
			q := opened(t, d, secret)
			now, wantEnd := text(told(q, crashNames...)), behindEnd
			if now == text(behind) {
				done++
			} else {
				undone++
				wantEnd = aheadEnd
				expect(t, fmt.Sprint(c.name, " fuse ", fuse), all(now), all(text(ahead)))
			}
			if r.Intn(6) == 0 {
				expect(t, "where it ends", all(text(end(q))), all(wantEnd))
			}
		}
	}
}

// stories are calls ahead of the one with which the disk crashes.
func stories() [][]call {
	published := []call{submits(update("b", 1)), submits(update("a", 1)), ticks(2), submits(update("a", 2)), submits(update("c"))}
	moving := append(published[:4:4], rotates(2), ticks(1))
	moved := append(moving[:6:6], submits(update("b", 5)), ticks(1), ticks(1))
	again := append(moved[:9:9], rotates(3), ticks(2))
	return [][]call{nil, published, moving, moved, again}
}

func TestACrashAtEachOperation(t *testing.T) {
	// So many updates more ahead of the call: what it lays comes to lie elsewhere on
	// the disk.
	for _, more := range []int{0, 20, 40, 44} {
		t.Run(fmt.Sprint(more), func(t *testing.T) {
			t.Parallel()
			r := rand.New(rand.NewSource(int64(more)))
			done, undone := 0, 0
			for i, story := range stories() {
				d := made(t, 1024)
				p := opened(t, d, secret)
				for _, c := range story {
					if e := errnoOf(c.do(p)); e != api.OK {
						t.Fatal(c.name, e)
					}
				}
				for n := range byte(more) {
					p.Submit(update("b", n, n+1, n+2, n+3, n+4, n+5, n+6, n+7))
				}
				d.Restart(nil)
				next := []call{submits(update("b", 40)), submits(update("c", 40, 41)), ticks(1), ticks(32), rotates(40)}
				for at, c := range next {
					skip := c.name == "Tick 1" && p.Moving() == 0 && len(p.Queue()) == 0 || c.name == "Tick 32" && len(p.Queue()) == 0
					if skip || c.name == "Rotate 40" && p.Moving() > 0 || (i+at+more)%3 == 0 && more > 0 {
						continue
					}
					a, b := crashes(t, r, d, c)
					done, undone = done+a, undone+b
				}
			}
			if done == 0 || undone == 0 {
				t.Errorf("%d times there, %d times not", done, undone)
			}
		})
	}
}

// history is all roots that were ever told of a disk: no epoch has two.
type history struct {
	t     *testing.T
	roots map[uint64]api.Root
}

func (h history) see(r api.Root) {
	h.t.Helper()
	if was, seen := h.roots[r.Epoch]; seen && was != r {
		h.t.Fatalf("two roots of epoch %d", r.Epoch)
	}
	h.roots[r.Epoch] = r
}

func (h history) seeAll(p teller) {
	h.t.Helper()
	for epoch := range p.Root().Epoch + 1 {
		s, _ := p.Step(epoch)
		h.see(s.Root)
	}
	if last := p.Root().Epoch; uint64(len(h.roots)) != last+1 {
		h.t.Fatalf("%d epochs were told, and %d is the last", len(h.roots), last)
	}
}

func drawnCall(r *rand.Rand) call {
	switch r.Intn(8) {
	case 0:
		return rotates(byte(r.Intn(5)))
	case 1, 2, 3:
		return ticks(1 + r.Intn(3))
	}
	return submits(update(crashNames[r.Intn(3)], byte(r.Intn(250))))
}

// choicesFor keeps nothing of what waits, or a drawn mixture, or, the most times, all.
func choicesFor(r *rand.Rand, d *disk.Disk) []byte {
	switch r.Intn(5) {
	case 0:
		return nil
	case 1:
		return drawnChoices(r, d.Waiting())
	}
	return bytes.Repeat([]byte{1}, d.Waiting())
}

// crash restarts the disk, and opens the publisher again; it crashes within Open, too.
func (p *pair) crash(r *rand.Rand) {
	p.t.Helper()
	for again := range r.Intn(3) {
		p.disk.Restart(choicesFor(r, p.disk))
		data, _ := p.disk.Read(0)
		p.disk.Write(0, data) // what waits is synced by Open
		p.disk.SetFuse(again)
		publisher.Open(p.disk, secret)
	}
	p.disk.Restart(choicesFor(r, p.disk))
	p.pub = opened(p.t, p.disk, secret)
}

// till does drawn calls till one is refused by the disk, and answers that one.
func (p *pair) till(r *rand.Rand, h history) (call, any) {
	p.t.Helper()
	for {
		c := drawnCall(r)
		got := c.do(p.pub)
		if e := errnoOf(got); e == api.ErrLost || e == api.ErrFull {
			return c, e
		}
		expect(p.t, c.name, got, c.do(p.plain))
		h.seeAll(p.pub)
	}
}

// Crashes in a row on one disk, at drawn operations, also of Open.
func TestDrawnCrashesInARow(t *testing.T) {
	var done, undone atomic.Int64
	t.Run("all", func(t *testing.T) {
		for seed := range int64(12) {
			t.Run("", func(t *testing.T) {
				t.Parallel()
				r := rand.New(rand.NewSource(seed))
				p := newPair(t, 2048)
				h := history{t, map[uint64]api.Root{}}
				for range 20 {
					p.disk.SetFuse(r.Intn(40))
					c, e := p.till(r, h)
					if e == api.ErrLost {
						expectLost(t, p.pub, told(p.plain, crashNames...))
					}
					p.crash(r)
					now, ahead := told(p.pub, crashNames...), told(p.plain, crashNames...)
					if e == api.ErrLost && fmt.Sprint(now...) != fmt.Sprint(ahead...) {
						done.Add(1)
						c.do(p.plain)
					} else {
						undone.Add(1)
					}
					p.expectTold()
					h.seeAll(p.pub)
				}
				expect(t, "what is shown", shown(p.pub, crashNames...), shown(p.plain, crashNames...))
			})
		}
	})
	if done.Load() == 0 || undone.Load() == 0 {
		t.Errorf("%d times there, %d times not", done.Load(), undone.Load())
	}
}
