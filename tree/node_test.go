package tree_test

import (
	"encoding/hex"
	"math"
	"math/rand"
	"slices"
	"strings"
	"testing"

	"beacon/api"
	"beacon/tree"
)

// P11.1: Good, Holds, LeafNode, Apart.

// lens are good ones, the edges' neighbours, and numbers that no shift may take as they are.
func lens() []int {
	return append(slices.Collect(func(yield func(int) bool) {
		for n := -20; n <= 280; n++ {
			if !yield(n) {
				return
			}
		}
	}), math.MinInt, math.MaxInt, math.MinInt32, math.MaxInt32, 512, -256, 1<<16, 1<<16+8, 1<<32, 1<<32+256, -1<<32)
}

func unhex(t *testing.T, s string) (b [32]byte) {
	t.Helper()
	if n, err := hex.Decode(b[:], []byte(s)); n != 32 || err != nil {
		t.Fatal(s, err)
	}
	return b
}

func expectGood(t *testing.T, n api.Node, want bool) {
	t.Helper()
	if got := tree.Good(n); got != want {
		t.Errorf("Good(%d, %x): %v", n.Len, n.Prefix, got)
	}
}

func expectHolds(t *testing.T, n api.Node, label [32]byte, want bool) {
	t.Helper()
	if got := tree.Holds(n, label); got != want {
		t.Errorf("Holds(%d, %x, %x): %v", n.Len, n.Prefix, label, got)
	}
}

func expectApart(t *testing.T, list []api.Node, want bool) {
	t.Helper()
	if got := tree.Apart(list); got != want {
		t.Errorf("Apart(%v): %v", list, got)
	}
}

// Each Len, with no bit and with each single bit: good, if the bit stands ahead of Len.
func TestGood(t *testing.T) {
	for _, n := range lens() {
		inside := n >= 0 && n <= 256
		expectGood(t, api.Node{Len: n}, inside)
		expectGood(t, api.Node{Len: n, Hash: [32]byte{1, 31: 255}}, inside)
		for i := range 256 {
			expectGood(t, api.Node{Len: n, Prefix: bits(strings.Repeat("0", i) + "1")}, inside && i < n)
		}
	}
	ones := strings.Repeat("1", 256)
	for n := range 257 {
		for m := range 257 {
			expectGood(t, api.Node{Len: n, Prefix: bits(ones[:m])}, m <= n)
		}
	}
}

func TestHoldsAtEachBit(t *testing.T) {
	r := rand.New(rand.NewSource(1))
	whole := text(drawn(r))
	for n := range 257 {
		here := node(whole[:n])
		expectHolds(t, here, bits(whole), true)
		expectHolds(t, here, here.Prefix, true)
		for i := range 256 {
			turned := []byte(whole)
			turned[i] ^= 1
			expectHolds(t, here, bits(string(turned)), i >= n)
		}
	}
	for range 1000 {
		n := node(whole[:r.Intn(257)])
		label := nearLabel(r, n.Prefix)
		expectHolds(t, n, label, plainHolds(n, label))
	}
}

// What isn't good holds nothing, not even its own Prefix.
func TestHoldsOfNoGoodNode(t *testing.T) {
	for _, n := range lens() {
		expectHolds(t, api.Node{Len: n}, [32]byte{}, n >= 0 && n <= 256)
		expectHolds(t, api.Node{Len: n, Prefix: [32]byte{31: 1}}, [32]byte{31: 1}, n == 256)
		expectHolds(t, api.Node{Len: n, Prefix: [32]byte{1}}, [32]byte{1}, n >= 8 && n <= 256)
	}
	expectHolds(t, api.Node{Len: 3, Prefix: bits("1011")}, bits("1011"), false)
	expectHolds(t, api.Node{Len: 3, Prefix: bits("1010")}, bits("1011"), true)
}

func TestLeafNode(t *testing.T) {
	a := api.Leaf{Label: [32]byte{1}, Value: [32]byte{7}}
	want := unhex(t, "05fef95b6cbe7f4ce0efa1bcefa484ec7a2809ec31beebe7f8c20b3901c18aeb")
	if got := tree.LeafNode(a); got != (api.Node{Len: 256, Prefix: a.Label, Hash: want}) {
		t.Errorf("LeafNode: %v", got)
	}
	r := rand.New(rand.NewSource(2))
	for range 200 {
		l := api.Leaf{Label: drawn(r), Value: drawn(r)}
		n := tree.LeafNode(l)
		if n != plainLeafNode(l) {
			t.Errorf("LeafNode(%v): %v", l, n)
		}
		expectGood(t, n, true)
		expectHolds(t, n, l.Label, true)
		expectHolds(t, n, l.Value, false)
	}
	if tree.LeafNode(api.Leaf{}) != plainLeafNode(api.Leaf{}) {
		t.Error("LeafNode of noughts")
	}
}

// shortTexts are all texts of up to so many bits.
func shortTexts(most int) []string {
	out := []string{""}
	for i := 0; i < len(out) && len(out[i]) < most; i++ {
		out = append(out, out[i]+"0", out[i]+"1")
	}
	return out
}

// All lists of up to three nodes with up to three bits each, at the beginning and
// at the end of the labels.
func TestApartOfAllShortLists(t *testing.T) {
	for _, front := range []string{"", strings.Repeat("0", 253), strings.Repeat("1", 253), strings.Repeat("10", 126) + "0"} {
		expectApart(t, nil, true)
		expectApart(t, []api.Node{}, true)
		for _, a := range shortTexts(3) {
			expectApart(t, nodes(front+a), true)
			for _, b := range shortTexts(3) {
				pair := nodes(front+a, front+b)
				expectApart(t, pair, plainApart(pair))
				for _, c := range shortTexts(3) {
					list := append(slices.Clone(pair), node(front+c))
					expectApart(t, list, plainApart(list))
				}
			}
		}
	}
}

func TestApart(t *testing.T) {
	expectApart(t, nodes("00", "01", "1"), true)
	expectApart(t, nodes("0", "10", "110", "1110", "1111"), true)
	expectApart(t, nodes("01", "00"), false)      // they fall
	expectApart(t, nodes("00", "1", "01"), false) // the last one falls
	expectApart(t, nodes("00", "00"), false)      // the same
	expectApart(t, nodes("0", "01"), false)       // the first one holds the second
	expectApart(t, nodes("0", "00"), false)       // and has the same 32 bytes
	expectApart(t, nodes("00", "0"), false)       // likewise, the greater one behind
	expectApart(t, nodes("01", "0"), false)       // held by the one behind it
	expectApart(t, nodes("0", "001", "010", "1"), false)
	expectApart(t, nodes("", "1"), false)
	expectApart(t, nodes(""), true)
	one, other := node("01"), node("01")
	other.Hash = [32]byte{1}
	expectApart(t, []api.Node{one, other}, false) // other Hashes don't make them apart
}

// One node that isn't good is enough, wherever it stands.
func TestApartOfNoGoodNode(t *testing.T) {
	for _, bad := range []api.Node{
		{Len: -1}, {Len: 257}, {Len: math.MinInt}, {Len: math.MaxInt},
		{Len: 257, Prefix: bits("10")}, {Len: -1, Prefix: bits("10")},
		{Len: 2, Prefix: bits("101")}, {Len: 255, Prefix: bits("1" + strings.Repeat("0", 254) + "1")},
	} {
		expectApart(t, []api.Node{bad}, false)
		expectApart(t, []api.Node{bad, node("11")}, false)
		expectApart(t, []api.Node{node("00"), bad}, false)
		expectApart(t, []api.Node{node("00"), bad, node("11")}, false)
		expectApart(t, []api.Node{node("00"), node("01"), node("100"), bad}, false)
	}
}

// drawnCut is a list of nodes of many Lens that are apart.
func drawnCut(r *rand.Rand, many int) []api.Node {
	list, _ := plainNodes(drawnLeaves(r, many))
	var cut func(list []api.Node) []api.Node
	cut = func(list []api.Node) []api.Node {
		if len(list) == 1 || r.Intn(8) == 0 {
			return []api.Node{plainOver(list)}
		}
		_, noughts, ones := branches(list)
		return append(cut(noughts), cut(ones)...)
	}
	return cut(list)
}

func TestApartOfDrawnLists(t *testing.T) {
	r := rand.New(rand.NewSource(3))
	for range 300 {
		list := drawnCut(r, 1+r.Intn(12))
		expectApart(t, list, true)
		i, j := r.Intn(len(list)), r.Intn(len(list))
		switch r.Intn(4) {
		case 0:
			list[i], list[j] = list[j], list[i]
		case 1:
			list = slices.Insert(list, i, list[j])
		case 2:
			list[i].Len = r.Intn(257)
			list[i].Prefix = bits(text(list[i].Prefix)[:list[i].Len])
		case 3:
			list[i].Prefix = nearLabel(r, list[i].Prefix)
		}
		expectApart(t, list, plainApart(list))
	}
}
