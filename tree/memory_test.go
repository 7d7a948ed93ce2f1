package tree_test

import (
	"math/rand"
	"slices"
	"sync"
	"testing"

	"beacon/api"
	"beacon/tree"
)

// Rule R3: what is handed in is left as it is, its spare room too, and not kept; an
// answer is new memory, its spare room too. Rule R2: an answer hangs on arguments alone.

var (
	strangeNode = api.Node{Len: -7, Hash: [32]byte{7}}
	strangeLeaf = api.Leaf{Value: [32]byte{7}}
)

// roomy is list with room behind it, filled with fill; whole is both.
func roomy[T any](list []T, fill T) (front, whole []T) {
	whole = append(slices.Clone(list), slices.Repeat([]T{fill}, 50)...)
	return whole[:len(list)], whole
}

// spoil fills all of a list, its spare room too.
func spoil[T any](list []T, fill T) {
	list = list[:cap(list)]
	for i := range list {
		list[i] = fill
	}
}

func TestNodesAreLeftAsTheyAre(t *testing.T) {
	r := rand.New(rand.NewSource(20))
	for many := range 12 {
		for _, turned := range []bool{false, true} {
			var list []api.Node
			if many > 0 {
				list = drawnCut(r, many)
			}
			if turned {
				slices.Reverse(list)
			}
			front, whole := roomy(list, strangeNode)
			before := slices.Clone(whole)
			tree.Apart(front)
			root, _ := tree.Root(front)
			tree.Over(front)
			tree.Found(root, front, drawn(r))
			if !slices.Equal(whole, before) {
				t.Fatal("nodes, or the room behind them, have changed")
			}
		}
	}
}

func TestLeavesAreLeftAsTheyAre(t *testing.T) {
	r := rand.New(rand.NewSource(21))
	for many := range 20 {
		front, whole := roomy(drawnLeaves(r, many), strangeLeaf)
		if many > 1 && r.Intn(2) == 0 {
			front[0] = front[many-1]
		}
		before := slices.Clone(whole)
		tree.RootOf(front)
		tree.Open(front, before[0].Label)
		tree.Open(front, drawn(r))
		if !slices.Equal(whole, before) {
			t.Fatal("leaves, or the room behind them, have changed")
		}
	}
}

func TestOpeningsStandApart(t *testing.T) {
	r := rand.New(rand.NewSource(22))
	for many := range 20 {
		list := drawnLeaves(r, many)
		label := drawn(r)
		if many > 0 {
			label = nearLabel(r, list[0].Label)
		}
		one, _ := tree.Open(list, label)
		other, _ := tree.Open(list, label)
		want := slices.Clone(one)
		spoil(one, strangeNode)
		if !slices.Equal(other, want) {
			t.Fatal("two answers share memory")
		}
		expectOpen(t, "again", list, label, want, api.OK)
		spoil(list, strangeLeaf)
		if !slices.Equal(other, want) {
			t.Fatal("an answer changes with what was handed in")
		}
	}
}

// An answer hangs on no call beside it: many ask of one tree at a time.
func TestCallsBesideOneAnother(t *testing.T) {
	r := rand.New(rand.NewSource(23))
	list := drawnLeaves(r, 60)
	flat, _ := plainNodes(list)
	root := plainRoot(flat)
	var all sync.WaitGroup
	for _, l := range list {
		all.Go(func() {
			opened, e := tree.Open(list, l.Label)
			if got, _ := tree.RootOf(list); got != root || e != api.OK {
				t.Errorf("RootOf: %x, %v", got, e)
			}
			expectFound(t, "beside others", root, opened, l.Label, plainLeafNode(l).Hash, true, api.OK)
		})
	}
	all.Wait()
}
