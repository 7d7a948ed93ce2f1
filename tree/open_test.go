package tree_test

import (
	"math"
	"math/rand"
	"slices"
	"strings"
	"testing"

	"beacon/api"
	"beacon/tree"
)

// P11.3: Open. P11.4: Found. P11.5: what Open answers is Found.

func TestOpenExamples(t *testing.T) {
	expectOpen(t, "none", nil, bits("1"), nil, api.OK)
	expectOpen(t, "none", []api.Leaf{}, [32]byte{}, nil, api.OK)
	one := leaf("1")
	expectOpen(t, "one, there", []api.Leaf{one}, one.Label, []api.Node{plainLeafNode(one)}, api.OK)
	for _, s := range []string{"", "0", "11", "1" + strings.Repeat("0", 254) + "1", strings.Repeat("1", 256)} {
		expectOpen(t, "one, at another label", []api.Leaf{one}, bits(s), []api.Node{plainLeafNode(one)}, api.OK)
	}
	list := leaves("1", "000", "01")
	a, b, c := plainLeafNode(list[0]), plainLeafNode(list[1]), plainLeafNode(list[2])
	over := plainOver([]api.Node{b, c})
	expectOpen(t, "the last one", list, list[0].Label, []api.Node{over, a}, api.OK)
	expectOpen(t, "behind the last one", list, bits("111"), []api.Node{over, a}, api.OK)
	expectOpen(t, "the first one", list, list[1].Label, []api.Node{b, c, a}, api.OK)
	expectOpen(t, "between", list, bits("001"), []api.Node{b, c, a}, api.OK)
	below := list[1:]
	expectOpen(t, "the node over all doesn't hold it", below, bits("1"), []api.Node{over}, api.OK)
	expectOpen(t, "the node over all holds it", below, bits("011"), []api.Node{b, c}, api.OK)
}

// All trees out of the labels of three bits, opened at each label of four: the least
// of all lists.
func TestOpenIsTheLeast(t *testing.T) {
	for _, front := range []string{"", strings.Repeat("0", 252), strings.Repeat("1", 252)} {
		for set := range 256 {
			var list []api.Leaf
			for i := range 8 {
				if set>>i&1 == 1 {
					list = append(list, leaf(front+text([32]byte{byte(i) << 5})[:3]))
				}
			}
			flat, _ := plainNodes(list)
			for i := range 16 {
				label := bits(front + text([32]byte{byte(i) << 4})[:4])
				expectOpen(t, "small", list, label, plainOpen(t, flat, label), api.OK)
			}
		}
	}
}

// askAll opens a tree at its labels, near them and anywhere, and asks what was opened.
func askAll(t *testing.T, r *rand.Rand, list []api.Leaf) {
	t.Helper()
	flat, _ := plainNodes(list)
	root, e := tree.RootOf(list)
	if e != api.OK || root != plainRoot(flat) {
		t.Fatalf("RootOf: %x, %v", root, e)
	}
	for range 12 {
		label := drawn(r)
		if len(list) > 0 {
			switch near := list[r.Intn(len(list))].Label; r.Intn(5) {
			case 0, 1:
				label = near
			case 2, 3:
				label = nearLabel(r, near)
			}
		}
		want := downTo(flat, label)
		got, e := tree.Open(list, label)
		if !slices.Equal(got, want) || e != api.OK {
			t.Fatalf("Open of %d leaves at %x: %v, %v; want %v", len(list), label, got, e, want)
		}
		at := slices.IndexFunc(list, func(l api.Leaf) bool { return l.Label == label })
		if at < 0 {
			expectFound(t, "not there", root, got, label, [32]byte{}, false, api.OK)
		} else {
			expectFound(t, "there", root, got, label, plainLeafNode(list[at]).Hash, true, api.OK)
		}
	}
}

func TestWhatIsOpenedIsFound(t *testing.T) {
	r := rand.New(rand.NewSource(10))
	for many := range 40 {
		for range 3 {
			askAll(t, r, drawnLeaves(r, many))
		}
	}
	askAll(t, r, drawnLeaves(r, 300))
}

// Of other drawn lists and of roots that aren't theirs, Found answers as the second reading.
func TestFoundOfDrawnLists(t *testing.T) {
	r := rand.New(rand.NewSource(11))
	for range 1500 {
		list := drawnCut(r, 1+r.Intn(8))
		root := plainRoot(list)
		label := nearLabel(r, list[r.Intn(len(list))].Prefix)
		i := r.Intn(len(list))
		switch r.Intn(10) {
		case 0:
			root = drawn(r)
		case 1:
			list[i].Hash[r.Intn(32)] ^= 1
		case 2:
			list[i].Len += r.Intn(3) - 1
		case 3:
			list = slices.Delete(list, i, i+1)
		case 4:
			list = slices.Insert(list, i, list[r.Intn(len(list))])
		case 5:
			label = list[i].Prefix
		}
		hash, found, e := plainFound(root, list, label)
		expectFound(t, "drawn", root, list, label, hash, found, e)
	}
}

func TestFoundOfNone(t *testing.T) {
	for _, none := range [][]api.Node{nil, {}} {
		expectFound(t, "none", unhex(t, rootOfNone), none, [32]byte{}, [32]byte{}, false, api.OK)
		refuseFound(t, "none, by another root", [32]byte{}, none, [32]byte{}, api.ErrSig)
	}
}

// A node of Len 256 needn't be a leaf's: its Hash is answered as it stands.
func TestFoundAnswersTheHash(t *testing.T) {
	whole := text(drawn(rand.New(rand.NewSource(12))))
	for _, hash := range [][32]byte{{}, {1}, {31: 255}} {
		list := []api.Node{{Len: 256, Prefix: bits(whole), Hash: hash}}
		expectFound(t, "alone", plainRoot(list), list, bits(whole), hash, true, api.OK)
		turned := []byte(whole)
		turned[0] ^= 1
		list = append(list, node(string(turned[:1])))
		slices.SortFunc(list, func(a, b api.Node) int { return strings.Compare(text(a.Prefix), text(b.Prefix)) })
		expectFound(t, "beside another one", plainRoot(list), list, bits(whole), hash, true, api.OK)
		refuseFound(t, "under that other one", plainRoot(list), list, bits(string(turned)), api.ErrForm)
	}
}

// A node of each other Len that holds the label tells nothing of it.
func TestFoundUnderANode(t *testing.T) {
	whole := text(drawn(rand.New(rand.NewSource(13))))
	for n := range 256 {
		list := []api.Node{node(whole[:n])}
		refuseFound(t, "under a node", plainRoot(list), list, bits(whole), api.ErrForm)
		turned := []byte(whole)
		turned[max(n-1, 0)] ^= 1
		if n > 0 {
			expectFound(t, "beside a node", plainRoot(list), list, bits(string(turned)), [32]byte{}, false, api.OK)
		}
	}
	list := nodes("00", "01", "1")
	for _, s := range []string{"001", "011", "1"} {
		refuseFound(t, s, plainRoot(list), list, bits(s), api.ErrForm)
	}
	first := node(strings.Repeat("0", 255))
	refuseFound(t, "one bit short", plainRoot([]api.Node{first}), []api.Node{first}, first.Prefix, api.ErrForm)
}

// Where several errors apply: apart first, then the root, then the form.
func TestFoundAsksInOrder(t *testing.T) {
	list := nodes("0", "1")
	wrong := []api.Node{list[1], list[0]}
	root := plainRoot(list)
	refuseFound(t, "all three", [32]byte{}, wrong, bits("1"), api.ErrArg)
	refuseFound(t, "not apart, under a node", root, wrong, bits("1"), api.ErrArg)
	refuseFound(t, "another root, under a node", [32]byte{}, list, bits("1"), api.ErrSig)
	refuseFound(t, "under a node", root, list, bits("1"), api.ErrForm)

	there := []api.Node{plainLeafNode(leaf("0")), plainLeafNode(leaf("1"))}
	refuseFound(t, "not apart, found", plainRoot(there), []api.Node{there[1], there[0]}, bits("1"), api.ErrArg)
	refuseFound(t, "another root, found", root, there, bits("1"), api.ErrSig)
	for _, n := range []int{-1, 257, math.MinInt, math.MaxInt} {
		refuseFound(t, "no good Len", root, []api.Node{{Len: n}}, [32]byte{}, api.ErrArg)
	}
	refuseFound(t, "no good Prefix", root, []api.Node{{Len: 0, Prefix: bits("1")}}, bits("1"), api.ErrArg)
}

// The root of a tree, each bit of it turned, is another root.
func TestFoundByTurnedRoots(t *testing.T) {
	list := leaves("0", "10", "11")
	root, _ := tree.RootOf(list)
	opened, _ := tree.Open(list, list[1].Label)
	for b := range 256 {
		turned := root
		turned[b/8] ^= 1 << (b % 8)
		refuseFound(t, "turned", turned, opened, list[1].Label, api.ErrSig)
	}
}

// What was opened at one label, with anything of it changed, is refused at any.
func TestChangedOpeningsAreRefused(t *testing.T) {
	r := rand.New(rand.NewSource(14))
	for range 60 {
		list := drawnLeaves(r, 2+r.Intn(12))
		root, _ := tree.RootOf(list)
		label := list[r.Intn(len(list))].Label
		opened, _ := tree.Open(list, label)
		for i := range opened {
			for range 20 {
				changed := slices.Clone(opened)
				switch b := r.Intn(256); r.Intn(3) {
				case 0:
					changed[i].Hash[b/8] ^= 1 << (b % 8)
				case 1:
					changed[i].Prefix[b/8] ^= 1 << (b % 8)
				case 2:
					changed[i].Len = (changed[i].Len + 1 + b) % 257
				}
				if _, found, e := tree.Found(root, changed, label); found || e != api.ErrArg && e != api.ErrSig {
					t.Fatalf("node %d changed: %v, %v", i, found, e)
				}
			}
			refuseFound(t, "one left out", root, slices.Delete(slices.Clone(opened), i, i+1), label, api.ErrSig)
		}
	}
}

// FuzzTree draws a tree out of bytes: labels are near one another, and some come twice.
func FuzzTree(f *testing.F) {
	f.Add([]byte{0, 1, 2, 3}, []byte{2})
	f.Add([]byte{}, []byte{0, 7})
	f.Add([]byte{255, 254, 127, 128, 64, 0}, []byte{127})
	f.Add([]byte{5, 5}, []byte{5})
	f.Fuzz(func(t *testing.T, labels, asked []byte) {
		var list []api.Leaf
		for i, b := range labels[:min(len(labels), 24)] {
			l := api.Leaf{Value: [32]byte{byte(i)}}
			l.Label[i%2*31] = b
			list = append(list, l)
		}
		flat, ok := plainNodes(list)
		label := [32]byte{}
		copy(label[:], asked)
		if !ok {
			expectRootOf(t, "twice", list, [32]byte{}, api.ErrArg)
			expectOpen(t, "twice", list, label, nil, api.ErrArg)
			return
		}
		expectRootOf(t, "drawn", list, plainRoot(flat), api.OK)
		expectOpen(t, "drawn", list, label, downTo(flat, label), api.OK)
		hash, found, e := plainFound(plainRoot(flat), downTo(flat, label), label)
		expectFound(t, "drawn", plainRoot(flat), downTo(flat, label), label, hash, found, e)
		hash, found, e = plainFound(plainRoot(flat), flat, label)
		expectFound(t, "all leaves", plainRoot(flat), flat, label, hash, found, e)
	})
}
