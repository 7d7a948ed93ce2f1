package publisher_test

import (
	"slices"
	"testing"
	"unsafe"

	"beacon/api"
)

// Rule R3: what is handed in is left as it is, its spare room too, and not kept; an
// answer is new memory, its spare room too, and no two of its lists share any.

var (
	strangeDevice = [32]byte{7, 7, 7}
	strangeNode   = api.Node{Len: -7}
	strangeLeaf   = api.Leaf{Value: [32]byte{7}}
	strangeLink   = api.Link{Value: [32]byte{7}}
)

// roomy is list with room behind it, filled with fill; whole is both.
func roomy[T any](list []T, fill T) (front, whole []T) {
	whole = append(slices.Clone(list), slices.Repeat([]T{fill}, 20)...)
	return whole[:len(list)], whole
}

// spoil fills all of a list, its spare room too.
func spoil[T any](list []T, fill T) {
	list = list[:cap(list)]
	for i := range list {
		list[i] = fill
	}
}

func TestAnUpdateIsLeftAsItIsAndNotKept(t *testing.T) {
	p := newPair(t, 1024)
	hand := func(account string, last ...byte) {
		t.Helper()
		list, whole := roomy(devices(last...), strangeDevice)
		kept := slices.Clone(whole)
		p.submit(api.Update{Account: account, Devices: list})
		if !slices.Equal(whole, kept) {
			t.Error("devices, or the room behind them, have changed")
		}
		spoil(whole, strangeDevice)
		p.expectKept()
	}
	for _, full := range []bool{false, true} {
		hand("a", 1, 2)
		hand("b")
		hand("a", 3, 4, 5) // it takes the other one's place
		hand("c", 2, 1)    // refused
		hand("A", 1, 2)
		if full {
			p.disk.SetFull(true)
			list, whole := roomy(devices(1, 2), strangeDevice)
			kept := slices.Clone(whole)
			if _, e := p.pub.Submit(api.Update{Account: "d", Devices: list}); e != api.ErrFull || !slices.Equal(whole, kept) {
				t.Error(e)
			}
			p.disk.SetFull(false)
		}
		p.tick(1)
		p.expectKept()
		p.tick(32)
		p.expectKept()
	}
}

// One list may be handed in for many updates.
func TestOneListForMany(t *testing.T) {
	p := newPair(t, 1024)
	list := devices(1, 2)
	p.join(api.Update{Account: "a", Devices: list}, api.Update{Account: "b", Devices: list[:1]}, api.Update{Account: "c", Devices: list[1:]})
	spoil(list, strangeDevice)
	p.expectKept()
	p.tick(2)
	p.expectKept()
}

// spoilTold spoils all that a publisher answers.
func spoilTold(p teller, names ...string) {
	queue := p.Queue()
	for _, u := range queue {
		spoil(u.Devices, strangeDevice)
	}
	spoil(queue, update("strange", 7))
	spoil(p.Certs(), api.Cert{Epoch: 77})
	for epoch := range p.Root().Epoch + 1 {
		s, _ := p.Step(epoch)
		spoil(s.Nodes, strangeNode)
		spoil(s.Added, strangeLeaf)
		spoil(s.Links, strangeLink)
	}
	for _, name := range names {
		list, _ := p.Devices(name)
		spoil(list, strangeDevice)
		l, _ := p.Lookup(name)
		spoil(l.Devices, strangeDevice)
		spoil(l.Fresh.Nodes, strangeNode)
		spoil(l.Stale.Nodes, strangeNode)
		h, _ := p.History(name)
		for i := range h.Versions {
			spoil(h.Versions[i], strangeDevice)
			spoil(h.Fresh[i].Nodes, strangeNode)
		}
		spoil(h.Next.Nodes, strangeNode)
		spoil(h.Versions, nil)
		spoil(h.Fresh, api.Opening{})
	}
}

func TestAnswersAreNewMemory(t *testing.T) {
	p := newPair(t, 1024)
	names := []string{"a", "b", "account-1"}
	for _, do := range []func(){
		func() { p.join(update("a", 1, 2), update("b", 3)) },
		func() { p.join(many(6, 4, 5)...) },
		func() { p.tick(3) },
		func() { p.join(update("a", 7)) },
		func() { p.reopen() },
		func() { p.tick(4) },
		func() { p.rotate([32]byte{2}) },
		func() { p.tick(2) },
		func() { p.tick(32) },
		func() { p.tick(32) },
		func() { p.rotate([32]byte{3}) },
	} {
		do()
		spoilTold(p.pub, names...)
		p.expectKept()
	}
	spoilTold(p.pub, names...)
	expect(t, "what is shown", shown(p.pub, names...), shown(p.plain, names...))
}

// The lists of the queue share nothing: each is spoilt, and those behind it, or ahead
// of it, stay as they were.
func TestListsOfTheQueueShareNothing(t *testing.T) {
	for _, again := range []bool{false, true} {
		for _, turned := range []bool{false, true} {
			p := newPair(t, 1024)
			list := devices(1, 2, 3)
			for _, account := range []string{"a", "b", "c", "d"} {
				p.join(api.Update{Account: account, Devices: list})
			}
			if again {
				p.reopen()
			}
			queue := p.pub.Queue()
			if turned {
				slices.Reverse(queue)
			}
			for i := range queue {
				spoil(queue[i].Devices, strangeDevice)
				for _, other := range queue[i+1:] {
					expect(t, "the lists behind it", all(other.Devices), all(list))
				}
			}
		}
	}
}

// An answer that was given stays as it is, whatever is done behind it.
func TestAnswersStay(t *testing.T) {
	p := newPair(t, 1024)
	p.join(update("b", 1), update("a", 2), update("c", 3))
	queue := p.pub.Queue()
	p.join(update("a", 9), update("d", 9))
	p.tick(2)
	p.join(update("a", 8))
	expect(t, "the queue as it was", all(queue), all([]api.Update{update("b", 1), update("a", 2), update("c", 3)}))
	certs := p.pub.Certs()
	p.rotate([32]byte{2})
	p.tick(32)
	if len(certs) != 0 {
		t.Error(certs)
	}
}

// A name is neither kept nor handed back as the memory that came in.
func TestNamesAreNotKept(t *testing.T) {
	p := newPair(t, 1024)
	b := []byte("a-name")
	lent := unsafe.String(&b[0], len(b))
	p.pub.Submit(api.Update{Account: lent, Devices: devices(1)})
	p.plain.Submit(update("a-name", 1))
	l, _ := p.pub.Lookup(lent)
	h, _ := p.pub.History(lent)
	copy(b, "b-game")
	if l.Account != "a-name" || h.Account != "a-name" {
		t.Error(l.Account, h.Account)
	}
	p.expectKept()
	p.join(update("a-name", 2))
	p.expectKept()
	p.tick(1)
	p.expectKept()
}
