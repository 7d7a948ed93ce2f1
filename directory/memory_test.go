package directory_test

import (
	"slices"
	"strings"
	"sync"
	"testing"
	"unsafe"

	"beacon/api"
	"beacon/directory"
)

// Rule R3: what is handed in is left as it is, its spare room too, and not kept; an
// answer is new memory, its spare room too, and no two of its lists share any.

var (
	strangeDevice = [32]byte{7, 7, 7}
	strangeNode   = api.Node{Len: -7}
	strangeLeaf   = api.Leaf{Value: [32]byte{7}}
	strangeLink   = api.Link{Value: [32]byte{7}}
)

// roomy is list with room behind it, filled with fill; whole is both.
func roomy[T any](list []T, fill T) (front, whole []T) {
	whole = append(slices.Clone(list), slices.Repeat([]T{fill}, 20)...)
	return whole[:len(list)], whole
}

// spoil fills all of a list, its spare room too.
func spoil[T any](list []T, fill T) {
	list = list[:cap(list)]
	for i := range list {
		list[i] = fill
	}
}

func TestABatchIsLeftAsItIsAndNotKept(t *testing.T) {
	p := newPair(t, [32]byte{1})
	for _, refused := range []bool{false, true, false} {
		a, wholeA := roomy(devices(1, 2), strangeDevice)
		b, wholeB := roomy(devices(3), strangeDevice)
		batch, whole := roomy([]api.Update{{Account: "b", Devices: b}, {Account: "a", Devices: a}}, update("strange", 7))
		if refused {
			batch = whole[:4]
		}
		keptA, keptB, kept := slices.Clone(wholeA), slices.Clone(wholeB), slices.Clone(whole)
		p.publish(batch...)
		if !slices.Equal(wholeA, keptA) || !slices.Equal(wholeB, keptB) {
			t.Error("devices, or the room behind them, have changed")
		}
		expect(t, "the batch, and the room behind it", all(whole), all(kept))
		spoil(wholeA, strangeDevice)
		spoil(wholeB, strangeDevice)
		spoil(whole, api.Update{})
		p.expectState()
	}
	if p.dir.Root().Epoch != 2 {
		t.Error(p.dir.Root())
	}
}

// One list may be handed in for many accounts, and for many versions.
func TestOneListForMany(t *testing.T) {
	p := newPair(t, [32]byte{1})
	list := devices(1, 2)
	p.publish(api.Update{Account: "a", Devices: list}, api.Update{Account: "b", Devices: list})
	p.publish(api.Update{Account: "a", Devices: list[:1]})
	p.publish(api.Update{Account: "a", Devices: list[:0]})
	p.publish(api.Update{Account: "a", Devices: list[1:]})
	spoil(list, strangeDevice)
	p.expectState()
}

// openings are the lists of nodes of an answer.
func openings(l api.Lookup, h api.History) (lists [][]api.Node) {
	lists = append(lists, l.Fresh.Nodes, l.Stale.Nodes, h.Next.Nodes)
	for _, o := range h.Fresh {
		lists = append(lists, o.Nodes)
	}
	return lists
}

func TestAnswersAreNewMemory(t *testing.T) {
	p := newPair(t, [32]byte{1})
	p.publish(many(6, 1)...)
	for v := range byte(3) {
		p.publish(update("a", v, v+1, v+2))
	}
	p.rotate([32]byte{2})
	p.moveOn(4)
	p.publish(update("a", 9))
	for range 2 {
		p.rotate([32]byte{3})
		spoil(p.dir.Certs(), api.Cert{Epoch: 77})
		for epoch := range p.dir.Root().Epoch + 1 {
			s, _ := p.dir.Step(epoch)
			spoil(s.Nodes, strangeNode)
			spoil(s.Added, strangeLeaf)
			spoil(s.Links, strangeLink)
		}
		list, _ := p.dir.Devices("a")
		spoil(list, strangeDevice)
		l, _ := p.dir.Lookup("a")
		h, _ := p.dir.History("a")
		spoil(l.Devices, strangeDevice)
		for _, list := range h.Versions {
			spoil(list, strangeDevice)
		}
		for _, nodes := range openings(l, h) {
			spoil(nodes, strangeNode)
		}
		spoil(h.Versions, nil)
		spoil(h.Fresh, api.Opening{})
		p.expectState()
		p.moveOn(5)
	}
	p.expectState()
}

// spoilEach spoils one list after the other, and asks that those behind it are whole.
func spoilEach[T any](t *testing.T, lists [][]T, fill T) {
	t.Helper()
	for i, list := range lists {
		var rest [][]T
		for _, other := range lists[i+1:] {
			rest = append(rest, slices.Clone(other))
		}
		spoil(list, fill)
		expect(t, "the lists behind it", all(lists[i+1:]), all(rest))
	}
}

func TestListsOfAnAnswerShareNothing(t *testing.T) {
	p := newPair(t, [32]byte{1})
	p.publish(many(6, 1)...)
	list := devices(1, 2)
	for range 4 {
		p.publish(api.Update{Account: "a", Devices: list})
	}
	for _, turned := range []bool{false, true} {
		l, _ := p.dir.Lookup("a")
		h, _ := p.dir.History("a")
		nodes, lists := openings(l, h), append(h.Versions, l.Devices)
		if turned {
			slices.Reverse(nodes)
			slices.Reverse(lists)
		}
		spoilEach(t, nodes, strangeNode)
		spoilEach(t, lists, strangeDevice)
	}
}

// A name is neither kept nor handed back as the memory that came in.
func TestNamesAreNotKept(t *testing.T) {
	p := newPair(t, [32]byte{1})
	bytes := []byte("a-name")
	lent := unsafe.String(&bytes[0], len(bytes))
	p.publish(api.Update{Account: lent, Devices: devices(1)})
	l, _ := p.dir.Lookup(lent)
	h, _ := p.dir.History(lent)
	delete(p.plain.lists, lent)
	p.plain.lists[strings.Clone(lent)] = [][][32]byte{devices(1)}
	p.rotate([32]byte{2})
	copy(bytes, "b-game")
	p.moveOn(1)
	p.publish(update("a-name", 2))
	p.expectState()
	if l.Account != "a-name" || h.Account != "a-name" {
		t.Error(l.Account, h.Account)
	}
}

// What only tells may be asked by many at a time.
func TestAskedByMany(t *testing.T) {
	d := directory.New([32]byte{1})
	d.Publish(many(5, 1))
	d.Publish(many(2, 2))
	d.Rotate([32]byte{2})
	d.Move(3)
	want := told(d, "account-0", "nobody")
	var group sync.WaitGroup
	got := make([][]any, 8)
	for i := range got {
		group.Go(func() { got[i] = told(d, "account-0", "nobody") })
	}
	group.Wait()
	for _, g := range got {
		expect(t, "asked by many", g, want)
	}
}
