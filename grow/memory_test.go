package grow_test

import (
	"math/rand"
	"slices"
	"sync"
	"testing"

	"beacon/api"
	"beacon/grow"
)

// Rule R3: what is handed in is left as it is, its spare room too, and not kept; an
// answer is new memory, its spare room too. Rule R2: an answer hangs on arguments alone.

var (
	strangeNode = api.Node{Len: -7, Hash: [32]byte{7}}
	strangeLeaf = api.Leaf{Value: [32]byte{7}}
	strangeLink = api.Link{Value: [32]byte{7}}
)

// roomy is list with room behind it, filled with fill; whole is both.
func roomy[T any](list []T, fill T) (front, whole []T) {
	whole = append(slices.Clone(list), slices.Repeat([]T{fill}, 50)...)
	return whole[:len(list)], whole
}

// spoil fills all of a list, its spare room too.
func spoil[T any](list []T, fill T) {
	list = list[:cap(list)]
	for i := range list {
		list[i] = fill
	}
}

func TestArgumentsAreLeftAsTheyAre(t *testing.T) {
	r := rand.New(rand.NewSource(30))
	for many := range 40 {
		list, added := grown(r, many/2, many%7)
		cut := downTo(plainNodes(list), added)
		before, after := rootOf(list), rootOf(list, added)
		if many%3 == 2 {
			slices.Reverse(cut)
			added = append(added, slices.Concat(list, added)[0])
		}
		frontList, wholeList := roomy(list, strangeLeaf)
		frontAdded, wholeAdded := roomy(added, strangeLeaf)
		frontCut, wholeCut := roomy(cut, strangeNode)
		keptList, keptAdded, keptCut := slices.Clone(wholeList), slices.Clone(wholeAdded), slices.Clone(wholeCut)
		grow.Stays(frontList, frontAdded)
		grow.Stays(frontList, nil)
		grow.Stays(nil, frontAdded)
		grow.Check(before, after, frontCut, frontAdded)
		grow.Check(before, before, frontCut, nil)
		grow.Check(before, after, nil, frontAdded)
		if !slices.Equal(wholeList, keptList) || !slices.Equal(wholeAdded, keptAdded) || !slices.Equal(wholeCut, keptCut) {
			t.Fatal("what was handed in, or the room behind it, has changed")
		}
		frontLinks, wholeLinks := roomy(drawnLinks(r, many), strangeLink)
		keptLinks := slices.Clone(wholeLinks)
		grow.Relink(before, after, frontLinks)
		if !slices.Equal(wholeLinks, keptLinks) {
			t.Fatal("links, or the room behind them, have changed")
		}
	}
}

// One list may be handed in for both: it is its own leaf added again.
func TestOneListTwice(t *testing.T) {
	list := leaves("1", "01")
	expectStays(t, "one list twice", list, list, nil, api.ErrArg)
	expectStays(t, "its halves", list[:1], list[1:], plainNodes(list[:1]), api.OK)
}

func TestAnswersStandApart(t *testing.T) {
	r := rand.New(rand.NewSource(31))
	for many := range 30 {
		list, added := grown(r, many, many%5)
		one, _ := grow.Stays(list, added)
		other, _ := grow.Stays(list, added)
		want := slices.Clone(one)
		spoil(one, strangeNode)
		if !slices.Equal(other, want) {
			t.Fatal("two answers share memory")
		}
		expectStays(t, "again", list, added, want, api.OK)
		spoil(list, strangeLeaf)
		spoil(added, strangeLeaf)
		if !slices.Equal(other, want) {
			t.Fatal("an answer changes with what was handed in")
		}
	}
}

// An answer hangs on no call beside it: many ask of one tree at a time.
func TestCallsBesideOneAnother(t *testing.T) {
	r := rand.New(rand.NewSource(32))
	list, added := grown(r, 60, 20)
	links := drawnLinks(r, 30)
	stay := downTo(plainNodes(list), added)
	before, after := rootOf(list), rootOf(list, added)
	old, fresh := linkRoots(links)
	var all sync.WaitGroup
	for range 16 {
		all.Go(func() {
			expectStays(t, "beside others", list, added, stay, api.OK)
			expectCheck(t, "beside others", before, after, stay, added, api.OK)
			expectRelink(t, "beside others", old, fresh, links, api.OK)
		})
	}
	all.Wait()
}
