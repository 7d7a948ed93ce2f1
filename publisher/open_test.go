package publisher_test

import (
	"math/rand"
	"strings"
	"testing"

	"beacon/api"
	"beacon/directory"
	"beacon/disk"
	"beacon/publisher"
	"beacon/store"
)

// P16.1: Open, and what is told.

func refuseOpen(t *testing.T, d *disk.Disk, want api.Errno) {
	t.Helper()
	if p, e := publisher.Open(d, [32]byte{1}); p != nil || e != want {
		t.Errorf("%v, %v, want nil and %v", p, e, want)
	}
}

func TestOpenHandsOnTheTablesError(t *testing.T) {
	refuseOpen(t, nil, api.ErrArg)
	refuseOpen(t, &disk.Disk{}, api.ErrArg)
	refuseOpen(t, made(t, 1), api.ErrArg)
	refuseOpen(t, made(t, 63), api.ErrArg)
	opened(t, made(t, 64), [32]byte{1})

	d := made(t, 1024)
	d.SetFuse(0)
	d.Sync()
	refuseOpen(t, d, api.ErrLost)
	refuseOpen(t, d, api.ErrLost)
	d.Restart(nil)
	opened(t, d, [32]byte{1})
}

// A crash at each operation of Open, where it has one.
func TestACrashWithinOpen(t *testing.T) {
	p := newPair(t, 1024)
	p.join(update("a", 1), update("b", 2))
	p.tick(1)
	p.rotate([32]byte{2})
	for torn := range byte(4) {
		for fuse := 0; ; fuse++ {
			d := copyOf(t, p.disk)
			for range 2 { // what waits is what stands there
				data, _ := d.Read(1023)
				d.Write(1023, data)
			}
			d.SetFuse(fuse)
			if _, e := publisher.Open(d, p.secret); e == api.OK {
				break
			}
			if !d.Down() || fuse > 1000 {
				t.Fatal(fuse)
			}
			refuseOpen(t, d, api.ErrLost)
			d.Restart([]byte{torn, torn})
			again := opened(t, d, p.secret)
			expect(t, "all behind it", told(again, "a", "b"), told(p.plain, "a", "b"))
		}
	}
}

func TestANewDisk(t *testing.T) {
	for _, secret := range [][32]byte{{}, {1}, {31: 255}} {
		for _, sectors := range []int{64, 65, 1024} {
			d := made(t, sectors)
			p := opened(t, d, secret)
			want := newPlain(secret)
			expect(t, "all of a new disk", told(p, "a"), told(want, "a"))
			expect(t, "what is shown", shown(p, "a", "A"), shown(want, "a", "A"))
			if len(p.Queue()) != 0 || p.Root() != directory.New(secret).Root() {
				t.Error(p.Queue(), p.Root())
			}
		}
	}
}

// What is told is as the directory tells it, whatever is asked.
func TestWhatIsToldIsTheDirectorys(t *testing.T) {
	p := newPair(t, 1024)
	names := []string{"a", "b", "never", "", "A", "a b", strings.Repeat("x", 33), "\xff"}
	check := func() {
		t.Helper()
		expect(t, "without proofs", told(p.pub, names...), told(p.plain, names...))
		expect(t, "with proofs", shown(p.pub, names...), shown(p.plain, names...))
		for _, epoch := range []uint64{p.plain.Root().Epoch + 1, 1 << 63, ^uint64(0)} {
			if s, e := p.pub.Step(epoch); e != api.ErrNone || s.Root != (api.Root{}) || len(s.Nodes)+len(s.Added)+len(s.Links) > 0 {
				t.Error(epoch, s, e)
			}
		}
	}
	check()
	p.join(update("b", 1, 2), update("a"))
	check() // what waits isn't told of
	p.tick(1)
	check()
	p.join(update("b", 3))
	p.tick(2)
	check()
	p.rotate([32]byte{2})
	p.tick(2)
	check()
	p.reopen()
	check()
	p.tick(32)
	check()
	p.reopen()
	check()
}

// Each call that was answered OK is there when the disk is opened again, whether it
// crashed or not, and whether it is full or not.
func TestEachCallIsKept(t *testing.T) {
	p := newPair(t, 1024)
	p.expectKept()
	for i, do := range []func(){
		func() { p.join(update("b", 1)) },
		func() { p.join(update("a", 1)) },
		func() { p.join(update("b", 2, 3, 4, 5, 6, 7, 8, 9)) },
		func() { p.join(update("c")) },
		func() { p.tick(2) },
		func() { p.join(update("a")) },
		func() { p.tick(32) },
		func() { p.tick(32) },
		func() { p.join(update("c", 200)) },
		func() { p.rotate([32]byte{2}) },
		func() { p.tick(3) },
		func() { p.join(update("b", 7), update("c")) },
		func() { p.tick(1) },
		func() { p.tick(1) },
		func() { p.rotate([32]byte{3}) },
		func() { p.tick(1) },
		func() { p.tick(32) },
		func() { p.rotate([32]byte{4}) },
	} {
		do()
		p.expectKept()
		if i%2 == 0 {
			p.reopen(1, 2, 3)
		}
		p.disk.SetFull(true)
		expect(t, "on a full disk", told(opened(t, p.disk, p.secret), p.names()...), told(p.plain, p.names()...))
		p.disk.SetFull(false)
	}
	if p.plain.Root().Epoch != 4 || p.plain.Root().Gen != 2 {
		t.Error(p.plain.Root())
	}
}

// What only tells leaves no trace.
func TestWhatTellsChangesNothing(t *testing.T) {
	p := newPair(t, 1024)
	p.join(update("a", 1), update("b", 2))
	p.tick(1)
	p.rotate([32]byte{2})
	for range 2 {
		told(p.pub, "a", "b", "A")
		shown(p.pub, "a", "b", "A")
		opened(t, p.disk, p.secret)
		if p.disk.Waiting() != 0 {
			t.Error(p.disk.Waiting())
		}
		p.expectKept()
		p.tick(1)
	}
}

// Publishers of other disks, and other secrets, stand by themselves.
func TestPublishersSideBySide(t *testing.T) {
	one, other := newPair(t, 1024), newPair(t, 1024)
	one.join(update("a", 1))
	other.join(update("b", 1))
	one.tick(1)
	one.rotate([32]byte{2})
	one.disk.SetFull(true)
	one.disk.SetFuse(0)
	one.disk.Sync()
	other.tick(1)
	other.expectKept()
	if a, b := opened(t, made(t, 64), [32]byte{1}), opened(t, made(t, 64), [32]byte{2}); a.Root() == b.Root() || a.First() == b.First() {
		t.Error("two secrets, one publisher")
	}
}

// A nil Publisher, and one that Open hasn't made, answer ErrArg, or zeros.
func TestNoPublisher(t *testing.T) {
	for _, p := range []*publisher.Publisher{nil, {}} {
		expect(t, "what is told", all(p.Queue(), p.First(), p.Certs(), p.Root(), p.Moving()),
			all([]api.Update{}, api.Keys{}, []api.Cert{}, api.Root{}, 0))
		s, e := p.Step(0)
		expect(t, "Step", all(s, e), all(api.Step{}, api.ErrArg))
		list, n := p.Devices("a")
		expect(t, "Devices", all(list, n), all([][32]byte{}, 0))
		l, e := p.Lookup("a")
		expect(t, "Lookup", all(l, e), all(api.Lookup{}, api.ErrArg))
		h, e := p.History("a")
		expect(t, "History", all(h, e), all(api.History{}, api.ErrArg))
		at, e := p.Submit(update("a", 1))
		expect(t, "Submit", all(at, e), all(0, api.ErrArg))
		r, done, e := p.Tick(1)
		expect(t, "Tick", all(r, done, e), all(api.Root{}, false, api.ErrArg))
		c, e := p.Rotate([32]byte{1})
		expect(t, "Rotate", all(c, e), all(api.Cert{}, api.ErrArg))
	}
}

// tableOf is what lies in the table on a publisher's disk.
func tableOf(t *testing.T, d *disk.Disk) (out []store.Change) {
	t.Helper()
	s, e := store.Open(d)
	if e != api.OK {
		t.Fatal(e)
	}
	for _, key := range s.Keys("", "") {
		value, _ := s.Get(key)
		out = append(out, store.Change{Key: key, Value: value})
	}
	return out
}

// spoilt draws a change of a text.
func spoilt(r *rand.Rand, s string) string {
	b := []byte(s)
	at := r.Intn(len(b) + 1)
	switch r.Intn(4) {
	case 0:
		return string(b[:at])
	case 1:
		return string(b[:at]) + "?" + string(b[at:])
	case 2:
		for ; at < len(b); at++ {
			b[at] = 255
		}
	default:
		if at < len(b) {
			b[at] ^= 1 << r.Intn(8)
		}
	}
	return string(b)
}

// use calls everything of a publisher of which nothing is known.
func use(p *publisher.Publisher) {
	p.Submit(update("a", 1))
	p.Submit(update("z"))
	for _, batch := range []int{1, 32, 2} {
		p.Tick(batch)
	}
	p.Rotate([32]byte{9})
	p.Tick(32)
	told(p, "a", "z")
	shown(p, "a")
}

// A table that no publisher has laid: what stands in it is free, but no call panics,
// and each ends.
func TestATableOfAnotherKind(t *testing.T) {
	p := newPair(t, 1024)
	p.join(update("a", 1), update("b", 2))
	p.tick(1)
	p.rotate([32]byte{2})
	p.tick(1)
	p.join(update("c"))
	p.tick(1)
	p.rotate([32]byte{3})
	p.tick(1)
	laid := tableOf(t, p.disk)
	r := rand.New(rand.NewSource(1))
	for i := range 80 {
		d := made(t, 1024)
		s, _ := store.Open(d)
		for _, c := range laid {
			if r.Intn(4) == 0 {
				c.Value = spoilt(r, c.Value)
			}
			if r.Intn(8) == 0 {
				c.Key = spoilt(r, c.Key)
			}
			if r.Intn(10) > 0 {
				s.Apply([]store.Change{c}) // may be refused
			}
		}
		use(opened(t, d, [32]byte{byte(i % 2)}))
		opened(t, d, [32]byte{1})
	}
}
