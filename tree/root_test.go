package tree_test

import (
	"crypto/sha256"
	"math/rand"
	"slices"
	"strings"
	"testing"

	"beacon/api"
	"beacon/tree"
)

// P11.1: Root, Over. P11.2: RootOf.

const rootOfNone = "6e340b9cffb37a989ca544e6bb780a2c78901d3fb33738768511a30617afa01d"

func filled(s string, fill byte) api.Node {
	return api.Node{Len: len(s), Prefix: bits(s), Hash: [32]byte(slices.Repeat([]byte{fill}, 32))}
}

// The numbers were worked out beside the program, in another language.
func TestKnownRoots(t *testing.T) {
	a, b := api.Leaf{Label: [32]byte{1}, Value: [32]byte{7}}, api.Leaf{Label: [32]byte{200}}
	expectRootOf(t, "none", nil, unhex(t, rootOfNone), api.OK)
	expectRootOf(t, "one", []api.Leaf{a}, unhex(t, "6eb021b17c6d31a464300f2bd96deb36267abf5ea58689b10e6827c0815087a5"), api.OK)
	expectRootOf(t, "two", []api.Leaf{b, a}, unhex(t, "51fd109ec8b6a5f85ce2f030e7e31dd9dfa9508ddd38ab263823c1ece55fca70"), api.OK)
	expectOver(t, "two", []api.Node{tree.LeafNode(a), tree.LeafNode(b)},
		api.Node{Hash: unhex(t, "0976c74e34d5075c193c0ae1f13a31c635e471b2009abce8c320a4f592140960")}, api.OK)

	ones := strings.Repeat("1", 256)
	last := []api.Leaf{{Label: bits(ones)}, {Label: bits(ones[:255])}}
	expectRootOf(t, "the last bit", last, unhex(t, "fd20edd9e10b0c025d01a2fa3ea99ba9c75c73cfad39370f7f13922d8308e3e0"), api.OK)
	expectOver(t, "the last bit", []api.Node{tree.LeafNode(last[1]), tree.LeafNode(last[0])}, api.Node{
		Len: 255, Prefix: bits(ones[:255]), Hash: unhex(t, "1eafb611f321103ca6f727b21c3f896440742cda6b0c3be61d296c58e49f2ef5"),
	}, api.OK)

	mixed := []api.Node{filled("00", 0x11), filled("0100000001", 0x22), filled("011", 0x33), filled("1", 0x44)}
	expectRoot(t, "mixed", mixed, unhex(t, "0e8fde2d91b766f94b688c279c24cf6af7a41e4d142660e229655b72e52617e4"), api.OK)
	expectOver(t, "mixed", mixed, api.Node{Hash: unhex(t, "f7e3a449446e2ad7215d1f2426e1bd958eae72c630d44badff710967b21385b1")}, api.OK)
	expectRoot(t, "middle", mixed[1:3], unhex(t, "ec3864f7fe55bf976bf6838e94ed15a7c268be35e211182916bcc631fd03ab6e"), api.OK)
	expectOver(t, "middle", mixed[1:3], api.Node{
		Len: 2, Prefix: bits("01"), Hash: unhex(t, "018e34fdcd3c74b9fb3d6f2e7786b01e5d0f444cac2a1a35ff5baea5e613ecc7"),
	}, api.OK)
	expectRoot(t, "whole", []api.Node{filled("", 0x55)}, unhex(t, "446f54dce8ffa463fa4dde66fcaa8f13c10ea4fed0cbe5795bed1151878eed68"), api.OK)

	var many []api.Leaf
	for i := range byte(100) {
		many = append(many, api.Leaf{Label: sha256.Sum256([]byte{'l', 'a', 'b', 'e', 'l', i}), Value: sha256.Sum256([]byte{'v', 'a', 'l', 'u', 'e', i})})
	}
	expectRootOf(t, "eight", many[:8], unhex(t, "23a7b098786ed88eb317a9e2108f9247b9b555f28709570a07bca87fb4977adc"), api.OK)
	expectRootOf(t, "a hundred", many, unhex(t, "9418705b28f20af8af9b8ce6d7a5ea522e5b01a9705324da31e0348cc80d4e7c"), api.OK)
}

func TestNoneAndOne(t *testing.T) {
	for _, none := range [][]api.Node{nil, {}, make([]api.Node, 0, 7)} {
		expectRoot(t, "none", none, unhex(t, rootOfNone), api.OK)
		expectOver(t, "none", none, api.Node{}, api.ErrArg)
	}
	expectRootOf(t, "none", []api.Leaf{}, unhex(t, rootOfNone), api.OK)
	for _, s := range append(shortTexts(3), text(drawn(rand.New(rand.NewSource(4))))) {
		n := node(s)
		expectOver(t, "one: "+s, []api.Node{n}, n, api.OK)
		expectRoot(t, "one: "+s, []api.Node{n}, hashed(3, plainBytes(n)), api.OK)
	}
}

// All lists of up to three short nodes: the root, where they are apart, else refused.
func TestRootAndOverOfShortLists(t *testing.T) {
	for _, a := range shortTexts(3) {
		for _, b := range shortTexts(3) {
			for _, c := range shortTexts(3) {
				for _, list := range [][]api.Node{nodes(a, b), nodes(a, b, c)} {
					if plainApart(list) {
						expectRoot(t, "apart", list, plainRoot(list), api.OK)
						expectOver(t, "apart", list, plainOver(list), api.OK)
					} else {
						expectRoot(t, "not apart", list, [32]byte{}, api.ErrArg)
						expectOver(t, "not apart", list, api.Node{}, api.ErrArg)
					}
				}
			}
		}
	}
}

func TestRootAndOverOfNoGoodNode(t *testing.T) {
	for _, n := range lens() {
		if n >= 0 && n <= 256 {
			continue
		}
		for _, list := range [][]api.Node{{{Len: n}}, {{Len: n}, node("1")}, {node("0"), {Len: n, Prefix: bits("1")}}} {
			expectRoot(t, "no good Len", list, [32]byte{}, api.ErrArg)
			expectOver(t, "no good Len", list, api.Node{}, api.ErrArg)
		}
	}
	bad := []api.Node{node("0"), {Len: 1, Prefix: bits("11")}}
	expectRoot(t, "a bit behind Len", bad, [32]byte{}, api.ErrArg)
	expectOver(t, "a bit behind Len", bad, api.Node{}, api.ErrArg)
}

// The node over nodes is good, and holds whatever one of them holds.
func TestOverHoldsAll(t *testing.T) {
	r := rand.New(rand.NewSource(5))
	for range 200 {
		list := drawnCut(r, 1+r.Intn(20))
		over, e := tree.Over(list)
		if over != plainOver(list) || e != api.OK {
			t.Fatalf("Over: %v, %v", over, e)
		}
		expectGood(t, over, true)
		for _, n := range list {
			expectHolds(t, over, n.Prefix, true)
		}
		expectRoot(t, "drawn", list, plainRoot(list), api.OK)
		expectRoot(t, "the node over them", []api.Node{over}, plainRoot(list), api.OK)
	}
}

// However a tree is cut, its root is the leaves'.
func TestAllCutsHaveOneRoot(t *testing.T) {
	r := rand.New(rand.NewSource(6))
	for many := range 9 {
		list := drawnLeaves(r, many)
		root, e := tree.RootOf(list)
		if e != api.OK {
			t.Fatal(e)
		}
		flat, _ := plainNodes(list)
		for _, c := range cuts(flat) {
			expectRoot(t, "cut", c, root, api.OK)
		}
	}
}

// The root hangs on each bit of each node: Len, Prefix and Hash.
func TestRootTellsNodesApart(t *testing.T) {
	list := nodes("00", "0100", "1")
	seen := map[[32]byte]string{}
	note := func(what string, list []api.Node) {
		root, e := tree.Root(list)
		if other, again := seen[root]; again || e != api.OK {
			t.Errorf("%s: %v, the root of %q", what, e, other)
		}
		seen[root] = what
	}
	note("list", list)
	note("none", nil)
	note("over", nodes("0", "1"))
	for i := range list {
		for b := range 256 {
			turned := slices.Clone(list)
			turned[i].Hash[b/8] ^= 1 << (b % 8)
			note("a bit of a Hash", turned)
		}
	}
	for n := 5; n <= 256; n++ {
		longer := slices.Clone(list)
		longer[1].Len = n
		note("Len", longer)
	}
	for b := 4; b < 256; b++ {
		turned := slices.Clone(list)
		turned[1].Len = 256
		turned[1].Prefix[b/8] |= 128 >> (b % 8)
		note("Prefix", turned)
	}
}

func TestRootOfAnyOrder(t *testing.T) {
	r := rand.New(rand.NewSource(7))
	for many := range 40 {
		list := drawnLeaves(r, many)
		flat, _ := plainNodes(list)
		want := plainRoot(flat)
		for range 5 {
			expectRootOf(t, "shuffled", list, want, api.OK)
			r.Shuffle(len(list), func(i, j int) { list[i], list[j] = list[j], list[i] })
		}
		slices.SortFunc(list, func(a, b api.Leaf) int { return slices.Compare(a.Label[:], b.Label[:]) })
		expectRootOf(t, "rising", list, want, api.OK)
		slices.Reverse(list)
		expectRootOf(t, "falling", list, want, api.OK)
	}
}

// Two leaves with one Label, whatever their Values and wherever they stand.
func TestOneLabelTwice(t *testing.T) {
	a := leaf("1")
	b := api.Leaf{Label: a.Label, Value: [32]byte{9}}
	r := rand.New(rand.NewSource(8))
	for _, twice := range [][]api.Leaf{{a, a}, {a, b}, {b, a}, {{}, {}}, {{}, a, {}}, {a, leaf("01"), b}} {
		expectRootOf(t, "twice", twice, [32]byte{}, api.ErrArg)
		expectOpen(t, "twice", twice, a.Label, nil, api.ErrArg)
		expectOpen(t, "twice, opened elsewhere", twice, bits("0101"), nil, api.ErrArg)
	}
	for range 100 {
		list := drawnLeaves(r, 1+r.Intn(30))
		again := list[r.Intn(len(list))]
		if r.Intn(2) == 0 {
			again.Value = drawn(r)
		}
		list = slices.Insert(list, r.Intn(len(list)+1), again)
		expectRootOf(t, "twice among many", list, [32]byte{}, api.ErrArg)
		expectOpen(t, "twice among many", list, drawn(r), nil, api.ErrArg)
	}
	same := []api.Leaf{{Label: bits("1"), Value: a.Value}, {Label: bits("01"), Value: a.Value}}
	flat, _ := plainNodes(same)
	expectRootOf(t, "one Value twice", same, plainRoot(flat), api.OK)
}

// chain has a leaf that leaves the way to the label at each bit, and the label's own.
func chain(label [32]byte) []api.Leaf {
	whole := text(label)
	list := []api.Leaf{leaf(whole)}
	for i := range whole {
		turned := []byte(whole[:i+1])
		turned[i] ^= 1
		list = append(list, leaf(string(turned)))
	}
	return list
}

func TestDeepTree(t *testing.T) {
	for _, label := range [][32]byte{{}, bits(strings.Repeat("1", 256)), bits(strings.Repeat("01", 128)), drawn(rand.New(rand.NewSource(9)))} {
		list := chain(label)
		flat, ok := plainNodes(list)
		if !ok || len(flat) != 257 {
			t.Fatal(len(flat), ok)
		}
		expectRootOf(t, "deep", list, plainRoot(flat), api.OK)
		expectOver(t, "deep", flat, plainOver(flat), api.OK)
		expectOpen(t, "deep", list, label, flat, api.OK)
		expectOpen(t, "deep, without the leaf", list[1:], label, slices.DeleteFunc(flat, func(n api.Node) bool { return n.Prefix == label }), api.OK)
	}
}
