package verify_test

import (
	"bytes"
	"fmt"
	"slices"
	"sync"
	"testing"

	"beacon/api"
	"beacon/verify"
)

// Rule R3: what is handed in is left as it is, its spare room too, and not kept; an
// answer is new memory, its spare room too, and no two of its lists share any. Rule
// R2: an answer hangs on arguments alone.

var (
	strangeDevice = [32]byte{7}
	strangeNode   = api.Node{Len: -7}
	strangeLeaf   = api.Leaf{Value: [32]byte{7}}
	strangeLink   = api.Link{Value: [32]byte{7}}
)

// roomy is list with room behind it, filled with fill; whole is both.
func roomy[T any](list []T, fill T) (front, whole []T) {
	whole = append(slices.Clone(list), slices.Repeat([]T{fill}, 20)...)
	return whole[:len(list)], whole
}

// spoil fills all of a list, its spare room too.
func spoil[T any](list []T, fill T) {
	list = list[:cap(list)]
	for i := range list {
		list[i] = fill
	}
}

// leftAlone asks, and holds all that was handed in against what it was ahead.
func leftAlone(t *testing.T, what string, ask func(), handed ...any) {
	t.Helper()
	kept := fmt.Sprint(handed...)
	ask()
	if fmt.Sprint(handed...) != kept {
		t.Errorf("%s: what was handed in, or the room behind it, has changed", what)
	}
}

func TestALookupIsLeftAsItIs(t *testing.T) {
	for _, fault := range []fault[lookupCase]{
		{text: "none"},
		{text: "nodes that don't rise", when: ofTheShown, do: func(c *lookupCase) { slices.Reverse(c.l.Stale.Nodes) }},
		{text: "devices that don't rise", when: ofTheShown, do: func(c *lookupCase) { slices.Reverse(c.l.Devices) }},
	} {
		if fault.do == nil {
			fault.do = func(*lookupCase) {}
		}
		c := lookupOf(twice("a"), "a", 2, devices(2, 3), fault)
		var list [][32]byte
		var nodes, others []api.Node
		c.l.Devices, list = roomy(c.l.Devices, strangeDevice)
		c.l.Fresh.Nodes, nodes = roomy(c.l.Fresh.Nodes, strangeNode)
		c.l.Stale.Nodes, others = roomy(c.l.Stale.Nodes, strangeNode)
		leftAlone(t, fault.text, func() { verify.Lookup(c.keys, c.l) }, list, nodes, others)
	}
}

func TestAHistoryIsLeftAsItIs(t *testing.T) {
	c := historyOf(twice("a"), "a", lists())
	var handed []any
	room := func(list []api.Node) []api.Node {
		front, whole := roomy(list, strangeNode)
		handed = append(handed, whole)
		return front
	}
	for i := range c.h.Versions {
		front, whole := roomy(c.h.Versions[i], strangeDevice)
		handed = append(handed, whole)
		c.h.Versions[i] = front
		c.h.Fresh[i].Nodes = room(c.h.Fresh[i].Nodes)
	}
	c.h.Next.Nodes = room(c.h.Next.Nodes)
	versions, wholeVersions := roomy(c.h.Versions, nil)
	openings, wholeOpenings := roomy(c.h.Fresh, api.Opening{})
	c.h.Versions, c.h.Fresh = versions, openings
	handed = append(handed, wholeVersions, wholeOpenings)
	leftAlone(t, "History", func() { c.expect(t, "History", api.OK) }, handed...)
	slices.Reverse(c.h.Versions)
	leftAlone(t, "History", func() { c.expect(t, "History", api.ErrSig) }, handed...)
}

func TestAStepIsLeftAsItIs(t *testing.T) {
	turned := appendOf(some(), more())
	slices.Reverse(turned.s.Added)
	for _, c := range []stepCase{appendOf(some(), more()), turned, migrateOf(some()), migrateOf(twice("a"))} {
		var nodes []api.Node
		var leaves []api.Leaf
		var links []api.Link
		c.s.Nodes, nodes = roomy(c.s.Nodes, strangeNode)
		c.s.Added, leaves = roomy(c.s.Added, strangeLeaf)
		c.s.Links, links = roomy(c.s.Links, strangeLink)
		leftAlone(t, "Step", func() {
			if e := verify.Step(c.keys, c.before, c.s); e != api.OK {
				t.Error(e)
			}
		}, nodes, leaves, links)
	}
}

func TestLookupBytesAnswersNewMemory(t *testing.T) {
	c := lookupOf(twice("a"), "a", 2, devices(2, 3))
	front, whole := roomy(lookupBytes(t, c.l), 7)
	kept := slices.Clone(whole)
	l, e := verify.LookupBytes(c.keys, front)
	if e != api.OK || !bytes.Equal(whole, kept) {
		t.Fatal("the bytes have changed:", e)
	}
	spoil(whole, 9)
	if !alike(l, c.l) {
		t.Error("the lookup has changed with the bytes")
	}
	spoil(l.Devices, strangeDevice)
	spoil(l.Fresh.Nodes, strangeNode)
	if !alike(l.Stale, c.l.Stale) {
		t.Error("lists of the lookup share memory")
	}
	spoil(l.Stale.Nodes, strangeNode)
	if again, e := verify.LookupBytes(c.keys, kept[:len(front)]); e != api.OK || !alike(again, c.l) {
		t.Error("the answer hangs on an earlier one:", e)
	}
}

func TestStepBytesAnswersNewMemory(t *testing.T) {
	for _, c := range []stepCase{appendOf(some(), more()), migrateOf(some())} {
		front, whole := roomy(stepBytes(t, c.s), 7)
		kept := slices.Clone(whole)
		s, e := verify.StepBytes(c.keys, c.before, front)
		if e != api.OK || !bytes.Equal(whole, kept) {
			t.Fatal("the bytes have changed:", e)
		}
		spoil(whole, 9)
		if !alike(s, c.s) {
			t.Error("the step has changed with the bytes")
		}
		spoil(s.Nodes, strangeNode)
		if !alike(s.Added, c.s.Added) || !alike(s.Links, c.s.Links) {
			t.Error("lists of the step share memory")
		}
		spoil(s.Added, strangeLeaf)
		spoil(s.Links, strangeLink)
		if again, e := verify.StepBytes(c.keys, c.before, kept[:len(front)]); e != api.OK || !alike(again, c.s) {
			t.Error("the answer hangs on an earlier one:", e)
		}
	}
}

func TestAskedByMany(t *testing.T) {
	l, h, s := lookupOf(twice("a"), "a", 2, devices(2, 3)), historyOf(twice("a"), "a", lists()), appendOf(some(), more())
	b := lookupBytes(t, l.l)
	var group sync.WaitGroup
	for range 8 {
		group.Go(func() {
			for range 3 {
				x, e := verify.LookupBytes(l.keys, b)
				if e != api.OK || !alike(x, l.l) || verify.Lookup(l.keys, l.l) != api.OK ||
					verify.History(h.keys, h.h) != api.OK || verify.Step(s.keys, s.before, s.s) != api.OK {
					t.Error("asked by many")
				}
			}
		})
	}
	group.Wait()
}
