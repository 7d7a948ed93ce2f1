package publisher_test

import (
	"fmt"
	"testing"

	"beacon/api"
)

// P16.3: Tick; P16.4: Rotate; P16.7: how soon an update is published.

func TestTheChaptersExample(t *testing.T) {
	p := newPair(t, 1024)
	for i, u := range []api.Update{update("a", 1), update("b", 1), update("a", 2)} {
		if n, _ := p.submit(u); n != []int{1, 2, 1}[i] {
			t.Error(i, n)
		}
	}
	done, e := p.tick(1)
	if !done || e != api.OK || p.pub.Root().Epoch != 1 || len(p.pub.Queue()) != 1 || p.pub.Queue()[0].Account != "b" {
		t.Error(done, e, p.pub.Root(), p.pub.Queue())
	}
	p.rotate([32]byte{2})
	if done, _ := p.tick(1); !done || p.pub.Root().Kind != api.Migrate || p.pub.Root().Epoch != 2 || p.pub.Root().Gen != 1 {
		t.Error(done, p.pub.Root())
	}
	p.expectKept()
}

func wrongBatches() []int { return []int{0, -1, 33, 64, 65536, -1 << 63, 1<<63 - 1} }

func TestWrongBatches(t *testing.T) {
	p := newPair(t, 1024)
	refuse := func() {
		t.Helper()
		for _, batch := range wrongBatches() {
			if done, e := p.tick(batch); done || e != api.ErrArg {
				t.Error(batch, done, e)
			}
		}
		p.expectKept()
	}
	refuse()
	p.join(update("a", 1), update("b", 1))
	refuse()
	p.tick(1)
	refuse()
	p.rotate([32]byte{2})
	refuse()
}

// A tick of an empty queue tells the latest root, and does nothing.
func TestNothingToDo(t *testing.T) {
	p := newPair(t, 1024)
	idle := func() {
		t.Helper()
		for _, batch := range []int{1, 2, 32} {
			if done, e := p.tick(batch); done || e != api.OK {
				t.Error(batch, done, e)
			}
		}
		p.expectKept()
	}
	idle()
	p.join(update("a", 1))
	p.tick(1)
	idle()
	p.rotate([32]byte{2})
	p.tick(1)
	idle()
	p.reopen()
	idle()
	if p.pub.Root().Epoch != 2 {
		t.Error(p.pub.Root())
	}
}

// The first ones go together, as one epoch, in their order; the others wait on.
func TestBatches(t *testing.T) {
	p := newPair(t, 2048)
	p.join(many(40, 1)...)
	epoch := uint64(0)
	for _, c := range []struct{ batch, left int }{{1, 39}, {3, 36}, {32, 4}, {5, 0}} {
		epoch++
		done, e := p.tick(c.batch)
		if !done || e != api.OK || len(p.pub.Queue()) != c.left || p.pub.Root().Epoch != epoch {
			t.Error(c, done, e, p.pub.Queue(), p.pub.Root())
		}
		p.expectKept()
	}
	s, _ := p.pub.Step(3)
	if len(s.Added) != 32 {
		t.Error(len(s.Added))
	}
}

// An account whose update is published may wait again, for its next version.
func TestVersionsOfOneAccount(t *testing.T) {
	p := newPair(t, 2048)
	for v := range byte(4) {
		p.join(update("a", v), update("b", v, v+1))
		p.tick(1 + int(v%2))
	}
	p.expectKept()
	p.tick(32)
	p.reopen()
	expect(t, "what is shown", shown(p.pub, "a", "b"), shown(p.plain, "a", "b"))
	if _, n := p.pub.Devices("a"); n != 4 {
		t.Error(n)
	}
	if _, n := p.pub.Devices("b"); n != 2 { // two waited on, and others took their places
		t.Error(n)
	}
}

// P16.7: the update at the place k is published by the tick number k / batch, rounded
// up.
func TestHowSoonAnUpdateIsPublished(t *testing.T) {
	for _, c := range []struct{ many, batch int }{{1, 1}, {1, 32}, {7, 1}, {7, 2}, {9, 3}, {20, 7}, {32, 32}, {33, 32}, {64, 31}, {64, 32}} {
		t.Run(fmt.Sprint(c), func(t *testing.T) {
			t.Parallel()
			p := newPair(t, 1024)
			p.join(many(c.many)...)
			for tick := 1; len(p.pub.Queue()) > 0; tick++ {
				if done, e := p.tick(c.batch); !done || e != api.OK {
					t.Fatal(tick, done, e)
				}
				for k := range c.many {
					_, versions := p.pub.Devices(fmt.Sprint("account-", k))
					if soon := (k+c.batch)/c.batch <= tick; (versions == 1) != soon {
						t.Fatalf("tick %d: place %d has %d versions", tick, k+1, versions)
					}
				}
			}
			p.expectKept()
		})
	}
}

// P16.7: a move of n leaves is done by the tick number n / batch, rounded up; of 0
// leaves by the first.
func TestHowSoonAMoveIsDone(t *testing.T) {
	for _, c := range []struct{ leaves, batch, ticks int }{
		{0, 1, 1}, {0, 32, 1}, {1, 1, 1}, {1, 32, 1}, {5, 1, 5}, {5, 2, 3}, {6, 3, 2}, {5, 5, 1}, {5, 6, 1}, {32, 32, 1}, {33, 32, 2},
	} {
		for _, again := range []bool{false, true} {
			t.Run(fmt.Sprint(c, again), func(t *testing.T) {
				t.Parallel()
				p := newPair(t, 1024)
				p.join(many(c.leaves)...)
				for len(p.pub.Queue()) > 0 {
					p.tick(32)
				}
				p.rotate([32]byte{2})
				p.join(update("waits", 1))
				for tick := 1; tick <= c.ticks; tick++ {
					if left := p.pub.Moving(); left != c.leaves-(tick-1)*c.batch+1 {
						t.Fatal(tick, left)
					}
					if again {
						p.reopen()
					}
					if done, e := p.tick(c.batch); done != (tick == c.ticks) || e != api.OK {
						t.Fatal(tick, done, e)
					}
				}
				if p.pub.Moving() != 0 || p.pub.Root().Kind != api.Migrate || len(p.pub.Queue()) != 1 {
					t.Error(p.pub.Moving(), p.pub.Root(), p.pub.Queue())
				}
				p.expectKept()
				if done, _ := p.tick(1); !done || p.pub.Root().Kind != api.Append {
					t.Error(p.pub.Root())
				}
			})
		}
	}
}

// A move goes ahead of the queue, which waits as it is.
func TestTheQueueWaitsForAMove(t *testing.T) {
	p := newPair(t, 1024)
	p.join(many(4, 1)...)
	p.tick(3)
	p.rotate([32]byte{2})
	p.join(update("account-1", 2), update("new", 3))
	for range 2 {
		if done, e := p.tick(1); done || e != api.OK || len(p.pub.Queue()) != 3 || p.pub.Root().Epoch != 1 {
			t.Error(done, e, p.pub.Queue(), p.pub.Root())
		}
		p.reopen()
	}
	p.tick(32)
	if len(p.pub.Queue()) != 3 || p.pub.Root().Kind != api.Migrate {
		t.Error(p.pub.Queue(), p.pub.Root())
	}
	p.tick(2)
	p.tick(2)
	p.expectKept()
	expect(t, "what is shown", shown(p.pub, "account-1", "new"), shown(p.plain, "account-1", "new"))
}

// P16.4: the certificate is the directory's, and there when the disk is opened again;
// while the directory moves, there is no other.
func TestRotate(t *testing.T) {
	p := newPair(t, 1024)
	for gen := range byte(4) {
		p.join(update("a", gen), update("b"))
		p.tick(32)
		if e := p.rotate([32]byte{100, gen}); e != api.OK {
			t.Fatal(e)
		}
		p.expectKept()
		if c := p.pub.Certs(); len(c) != int(gen)+1 || c[gen].Keys.Gen != uint64(gen)+1 || c[gen].Epoch != p.pub.Root().Epoch+1 {
			t.Error(gen, c)
		}
		for p.pub.Moving() > 0 {
			for _, secret := range [][32]byte{{9}, {100, gen}, {1}} {
				if e := p.rotate(secret); e != api.ErrBusy {
					t.Error(e)
				}
			}
			p.expectKept()
			if gen%2 == 0 {
				p.reopen()
			}
			p.tick(2)
		}
		if p.pub.Root().Gen != uint64(gen)+1 {
			t.Error(p.pub.Root())
		}
	}
	p.reopen()
	expect(t, "what is shown", shown(p.pub, "a", "b"), shown(p.plain, "a", "b"))
}

// Any 32 bytes are a secret, also one that was there ahead.
func TestSecrets(t *testing.T) {
	p := newPair(t, 1024)
	p.join(update("a", 1))
	p.tick(1)
	for _, secret := range [][32]byte{{}, {1}, {1}, {31: 1}, {0xff, 0xfe}} {
		p.rotate(secret)
		p.expectKept()
		p.tick(1)
		p.expectKept()
	}
	if p.pub.Root().Gen != 5 {
		t.Error(p.pub.Root())
	}
}
