package publisher_test

import (
	"fmt"
	"math/rand"
	"testing"

	"beacon/api"
)

// P16.5: what ErrFull leaves.

// refuseFull asks that the disk's fullness is told by each call that would change
// something, and that nothing has changed then.
func refuseFull(p *pair) {
	p.t.Helper()
	p.disk.SetFull(true)
	for _, u := range []api.Update{update("new", 1), update("a", 77)} {
		n, e := p.pub.Submit(u)
		expect(p.t, fmt.Sprint("Submit ", u), all(n, e), all(0, api.ErrFull))
		p.expectTold()
	}
	if p.pub.Moving() > 0 || len(p.pub.Queue()) > 0 {
		for _, batch := range []int{1, 2, 32} {
			r, done, e := p.pub.Tick(batch)
			expect(p.t, "Tick", all(r, done, e), all(api.Root{}, false, api.ErrFull))
			p.expectTold()
		}
	} else if done, e := p.tick(1); done || e != api.OK {
		p.t.Error(done, e)
	}
	if p.pub.Moving() == 0 {
		c, e := p.pub.Rotate([32]byte{8})
		expect(p.t, "Rotate", all(c, e), all(api.Cert{}, api.ErrFull))
		p.expectTold()
	}
	// What is asked ahead of the room is answered ahead of it.
	for _, u := range []api.Update{update("A", 1), update("a", 2, 1)} {
		if _, e := p.submit(u); e != api.ErrArg {
			p.t.Error(u, e)
		}
	}
	if _, e := p.tick(33); e != api.ErrArg {
		p.t.Error(e)
	}
	if p.pub.Moving() > 0 && p.rotate([32]byte{8}) != api.ErrBusy {
		p.t.Error("a move begins within a move")
	}
	p.expectKept()
	p.disk.SetFull(false)
}

// A full disk: nothing changes, and when it has room again all goes on.
func TestAFullDisk(t *testing.T) {
	for _, restart := range []bool{false, true} {
		p := newPair(t, 1024)
		for _, do := range []func(){
			func() { p.join(update("a", 1)) },
			func() { p.join(update("b", 1), update("a", 2)) },
			func() { p.tick(1) },
			func() { p.tick(1) },
			func() { p.rotate([32]byte{2}) },
			func() { p.tick(1) },
			func() { p.join(update("b", 2)) },
			func() { p.tick(1) },
			func() { p.tick(1) },
		} {
			refuseFull(p)
			if restart {
				p.reopen(1, 1, 2, 3)
			}
			do()
			p.expectKept()
		}
		refuseFull(p)
		if p.pub.Root().Epoch != 4 {
			t.Error(p.pub.Root())
		}
	}
}

// A full queue is told of ahead of a full disk; both are ErrFull, and both change
// nothing.
func TestAFullQueueOnAFullDisk(t *testing.T) {
	p := newPair(t, 1024)
	p.join(many(64)...)
	p.disk.SetFull(true)
	for _, u := range []api.Update{update("new"), update("account-3", 1)} {
		n, e := p.pub.Submit(u)
		expect(t, "Submit", all(n, e), all(0, api.ErrFull))
	}
	p.expectKept()
}

// refusedOrDone does a call of the pair's publisher, and of its plain reading too,
// unless it is answered ErrFull: then nothing may have changed.
func refusedOrDone(p *pair, do func(d doer) []any) (full bool) {
	p.t.Helper()
	got := do(p.pub)
	full = got[len(got)-1] == api.ErrFull
	if !full {
		expect(p.t, "a call", got, do(p.plain))
	} else {
		for _, v := range got[:len(got)-1] {
			switch v {
			case 0, false, api.Root{}, api.Cert{}:
			default:
				p.t.Errorf("%v beside ErrFull", v)
			}
		}
	}
	return full
}

// Disks too small for all that is asked: what is refused changes nothing, and what
// was taken ahead of it stays.
func TestADiskThatRunsFull(t *testing.T) {
	full := 0
	for seed := range int64(4) {
		r := rand.New(rand.NewSource(seed))
		p := newPair(t, 64+r.Intn(120))
		for i := range 45 {
			u := api.Update{Account: fmt.Sprint("account-", r.Intn(20)), Devices: drawnDevices(r)}
			batch, secret := 1+r.Intn(4), drawn(r)
			was := refusedOrDone(p, func(d doer) []any {
				switch i % 5 {
				case 3:
					return all(d.Tick(batch))
				case 4:
					return all(d.Rotate(secret))
				}
				return all(d.Submit(u))
			})
			if was {
				full++
				p.expectKept()
			}
			p.expectLatest()
			if r.Intn(6) == 0 {
				p.reopen()
			}
		}
		p.expectKept()
	}
	if full == 0 {
		t.Error("no disk was ever full")
	}
}

// The disk has run full of long lists that wait: each tick publishes of them, or, if
// it finds no room, changes nothing.
func TestAQueueThatFillsTheDisk(t *testing.T) {
	for _, batch := range []int{1, 3, 32} {
		p := newPair(t, 128)
		for i := range api.MostQueue {
			u := update(fmt.Sprint("account-", i), 1, 2, 3, 4, 5, 6, 7, 8)
			if refusedOrDone(p, func(d doer) []any { return all(d.Submit(u)) }) {
				break
			}
		}
		p.expectKept()
		if n := len(p.pub.Queue()); n == api.MostQueue {
			t.Fatal("the disk has room for all of them")
		}
		for full := false; !full && len(p.pub.Queue()) > 0; {
			full = refusedOrDone(p, func(d doer) []any { return all(d.Tick(batch)) })
			p.expectKept()
		}
		p.reopen()
	}
}
