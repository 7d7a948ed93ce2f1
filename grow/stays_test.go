package grow_test

import (
	"crypto/sha256"
	"math/rand"
	"slices"
	"strings"
	"testing"

	"beacon/api"
	"beacon/grow"
)

// P12.1: Stays. P12.4: what it answers is accepted by Check.

func TestStaysExamples(t *testing.T) {
	list := leaves("1", "000", "01")
	a, b, c := plainLeafNode(list[0]), plainLeafNode(list[1]), plainLeafNode(list[2])
	low := plainOver([]api.Node{b, c})
	for _, none := range [][]api.Leaf{nil, {}, make([]api.Leaf, 0, 3)} {
		expectStays(t, "nothing of nothing", none, none, nil, api.OK)
		expectStays(t, "no leaves", none, list, nil, api.OK)
		expectStays(t, "nothing added to one", list[:1], none, []api.Node{a}, api.OK)
		expectStays(t, "nothing added", list, none, []api.Node{plainOver([]api.Node{b, c, a})}, api.OK)
	}
	expectStays(t, "none near", list[1:], leaves("10", "11"), []api.Node{low}, api.OK)
	expectStays(t, "near the last one", list, leaves("11"), []api.Node{low, a}, api.OK)
	expectStays(t, "between the first two", list, leaves("001"), []api.Node{b, c, a}, api.OK)
	expectStays(t, "near all", list, leaves("0001", "011", "101"), []api.Node{b, c, a}, api.OK)
	expectStays(t, "one leaf", list[:1], leaves("0", "11", "101"), []api.Node{a}, api.OK)

	// A node may end far below the bit at which the added label leaves the way to it.
	deep := leaves("0000001", "0000000")
	over := plainOver(plainNodes(deep))
	expectStays(t, "at the first bit", deep, leaves("1"), []api.Node{over}, api.OK)
	expectStays(t, "one bit ahead of the fork", deep, leaves("000001"), []api.Node{over}, api.OK)
	expectStays(t, "under the fork", deep, leaves("00000011"), plainNodes(deep), api.OK)
}

// expectNodes holds Stays against what was worked out beside the program, in another
// language: how many nodes, and SHA-256 of all their bytes.
func expectNodes(t *testing.T, what string, list, added []api.Leaf, many int, sum string) {
	t.Helper()
	got, e := grow.Stays(list, added)
	var all []byte
	for _, n := range got {
		all = append(all, plainBytes(n)...)
	}
	if len(got) != many || sha256.Sum256(all) != unhex(t, sum) || e != api.OK {
		t.Errorf("%s: %d nodes, %x, %v", what, len(got), sha256.Sum256(all), e)
	}
}

// known are leaves that are written down as easily in another language.
func known() []api.Leaf {
	var list []api.Leaf
	for i := range byte(100) {
		list = append(list, api.Leaf{Label: sha256.Sum256([]byte{'l', 'a', 'b', 'e', 'l', i}), Value: sha256.Sum256([]byte{'v', 'a', 'l', 'u', 'e', i})})
	}
	return list
}

func TestKnownTrees(t *testing.T) {
	list := known()
	after := unhex(t, "9418705b28f20af8af9b8ce6d7a5ea522e5b01a9705324da31e0348cc80d4e7c")
	for _, k := range []struct {
		ahead, many int
		sum, before string
	}{
		{60, 44, "f99f0dfc0801cb2390314d95d2a903dec8de8347e905f64e09ac6f0695fae07e", "367a1c8d3f3a791acb90ad63a9711df3bdee62e4ad24bfa5f26a3e1aa4a401b2"},
		{96, 14, "2b4612078bac8238da1f15c6cacf932031ebf6d1bf276eb73b658bec19301aa0", "ef6bb36b7a35f6b41d88a4f365caa47c9e4b16da46a7abd0f156b7fc44df9af0"},
		{4, 4, "9a507876b6b8d3a31b6771a6ff281a7fbb687e17f7ec910af8bb36a5e07d6ab0", "4a7de2b4bd1346d951b1a1ba92aebe97887aa886c9edb5c4bba914faab3578cd"},
	} {
		ahead, added := list[:k.ahead], list[k.ahead:]
		expectNodes(t, "known", ahead, added, k.many, k.sum)
		stay, _ := grow.Stays(ahead, added)
		expectCheck(t, "known", unhex(t, k.before), after, stay, added, api.OK)
	}
	small := []api.Leaf{
		{Label: [32]byte{1}, Value: [32]byte{1}}, {Label: [32]byte{2}, Value: [32]byte{2}}, {Label: [32]byte{130}, Value: [32]byte{3}},
	}
	expectStays(t, "small", small, []api.Leaf{{Label: [32]byte{200}, Value: [32]byte{4}}}, []api.Node{
		{Len: 6, Hash: unhex(t, "1012d99e1d049d9217a6f392f7c0ef313ed23f0438e388731d173ab175a18cc2")},
		{Len: 256, Prefix: [32]byte{130}, Hash: unhex(t, "3d43631802ecc1674ab6043ab937bd310549ce3480d472790de4a2f15e280bfd")},
	}, api.OK)
}

// All trees out of the labels of three bits, with all that can be added to each: the
// least of all lists, and Check accepts it.
func TestStaysIsTheLeast(t *testing.T) {
	for _, front := range []string{"", strings.Repeat("1", 253)} {
		for set := range 3 * 3 * 3 * 3 * 3 * 3 * 3 * 3 {
			var list, added []api.Leaf
			for i := range 8 {
				l := leaf(front + text([32]byte{byte(i) << 5})[:3])
				switch set % 3 {
				case 1:
					list = append(list, l)
				case 2:
					added = append(added, l)
				}
				set /= 3
			}
			want := plainStays(t, list, added)
			expectStays(t, "small", list, added, want, api.OK)
			expectCheck(t, "small", rootOf(list), rootOf(list, added), want, added, api.OK)
		}
	}
}

// grown is a drawn tree, cut in two: what was there, and what is added.
func grown(r *rand.Rand, ahead, added int) (list, more []api.Leaf) {
	all := drawnLeaves(r, ahead+added)
	r.Shuffle(len(all), func(i, j int) { all[i], all[j] = all[j], all[i] })
	return slices.Clone(all[:ahead]), slices.Clone(all[ahead:])
}

func TestStaysIsAccepted(t *testing.T) {
	r := rand.New(rand.NewSource(1))
	for ahead := range 25 {
		for _, many := range []int{0, 1, 2, 3, 10, 40} {
			list, added := grown(r, ahead, many)
			want := downTo(plainNodes(list), added)
			expectStays(t, "drawn", list, added, want, api.OK)
			expectCheck(t, "drawn", rootOf(list), rootOf(list, added), want, added, api.OK)
		}
	}
	list, added := grown(r, 300, 64)
	expectStays(t, "many", list, added, downTo(plainNodes(list), added), api.OK)
}

// The order in which leaves are handed in tells nothing.
func TestStaysInAnyOrder(t *testing.T) {
	r := rand.New(rand.NewSource(2))
	for range 30 {
		list, added := grown(r, r.Intn(20), r.Intn(12))
		want, _ := grow.Stays(list, added)
		for range 4 {
			r.Shuffle(len(list), func(i, j int) { list[i], list[j] = list[j], list[i] })
			r.Shuffle(len(added), func(i, j int) { added[i], added[j] = added[j], added[i] })
			expectStays(t, "shuffled", list, added, want, api.OK)
		}
	}
}

// The added leaves' Values tell nothing, and the leaves' own only by the Hashes.
func TestStaysHangsOnAddedLabelsAlone(t *testing.T) {
	r := rand.New(rand.NewSource(3))
	for range 30 {
		list, added := grown(r, 1+r.Intn(20), 1+r.Intn(12))
		want, _ := grow.Stays(list, added)
		for i := range added {
			added[i].Value = drawn(r)
		}
		expectStays(t, "other Values added", list, added, want, api.OK)
		list[0].Value[0] ^= 1
		other, _ := grow.Stays(list, added)
		changed := 0
		for i := range want {
			if other[i].Len != want[i].Len || other[i].Prefix != want[i].Prefix {
				t.Fatal("another cut for another Value")
			}
			if other[i].Hash != want[i].Hash {
				changed++
			}
		}
		if changed != 1 {
			t.Fatalf("%d Hashes changed by one Value", changed)
		}
	}
}

// Two of all with one Label: both there, both added, or one of each, whatever their Values.
func TestStaysOfOneLabelTwice(t *testing.T) {
	a, b := leaf("1"), leaf("01")
	other := api.Leaf{Label: a.Label, Value: [32]byte{9}}
	for _, again := range []api.Leaf{a, other} {
		expectStays(t, "both there", []api.Leaf{a, again}, nil, nil, api.ErrArg)
		expectStays(t, "both there", []api.Leaf{a, b, again}, leaves("001"), nil, api.ErrArg)
		expectStays(t, "both added", nil, []api.Leaf{a, again}, nil, api.ErrArg)
		expectStays(t, "both added", []api.Leaf{b}, []api.Leaf{again, leaf("001"), a}, nil, api.ErrArg)
		expectStays(t, "one of each", []api.Leaf{a}, []api.Leaf{again}, nil, api.ErrArg)
		expectStays(t, "one of each", []api.Leaf{b, a}, []api.Leaf{leaf("001"), again}, nil, api.ErrArg)
	}
	expectStays(t, "noughts", []api.Leaf{{}}, []api.Leaf{{}}, nil, api.ErrArg)
	expectStays(t, "one Value twice", []api.Leaf{{Label: bits("1")}}, []api.Leaf{{Label: bits("0")}}, plainNodes([]api.Leaf{{Label: bits("1")}}), api.OK)
	r := rand.New(rand.NewSource(4))
	for range 100 {
		list, added := grown(r, 1+r.Intn(20), 1+r.Intn(20))
		all := slices.Concat(list, added)
		again := all[r.Intn(len(all))]
		if r.Intn(2) == 0 {
			again.Value = drawn(r)
		}
		expectStays(t, "twice, there", slices.Insert(slices.Clone(list), r.Intn(len(list)+1), again), added, nil, api.ErrArg)
		expectStays(t, "twice, added", list, slices.Insert(slices.Clone(added), r.Intn(len(added)+1), again), nil, api.ErrArg)
	}
}

// chain has a leaf that leaves the way to the label at each bit.
func chain(label [32]byte) []api.Leaf {
	whole := text(label)
	var list []api.Leaf
	for i := range whole {
		list = append(list, leaf(turn(whole[:i+1], i)))
	}
	return list
}

// leftAt is what stays of a chain, where a label is added that leaves its way at the
// bit i in the place of the chain's own leaf: those ahead, one by one, and all behind
// as one node.
func leftAt(list []api.Leaf, i int) []api.Node {
	want := plainNodes(list[:i])
	if i+1 == len(list) {
		return want
	}
	want = append(want, plainOver(plainNodes(list[i+1:])))
	slices.SortFunc(want, func(a, b api.Node) int { return strings.Compare(text(a.Prefix), text(b.Prefix)) })
	return want
}

// The added label may be as near as can be, and as far: at any of the 256 bits.
func TestStaysAtEachBit(t *testing.T) {
	for _, label := range [][32]byte{{}, bits(strings.Repeat("1", 256)), drawn(rand.New(rand.NewSource(5)))} {
		whole := text(label)
		list, own := chain(label), []api.Leaf{leaf(whole)}
		expectStays(t, "the label itself", list, own, plainNodes(list), api.OK)
		expectStays(t, "all but the label", own, list, plainNodes(own), api.OK)
		for i := range 256 {
			expectStays(t, "one leaf, one bit", own, leaves(turn(whole, i)), plainNodes(own), api.OK)
		}
		for _, i := range []int{0, 1, 7, 8, 128, 254, 255} {
			added := leaves(turn(whole, i))
			rest := slices.Concat(list[:i], list[i+1:])
			expectStays(t, "one bit of a chain", rest, added, leftAt(list, i), api.OK)
		}
		added := leaves(turn(whole, 200))
		rest := slices.Concat(list[:200], list[201:])
		expectCheck(t, "a chain", rootOf(rest), rootOf(rest, added), leftAt(list, 200), added, api.OK)
	}
}

// Beside many others: a leaf and an added one that the last bit alone tells apart, each.
func TestStaysOfNearestPairs(t *testing.T) {
	r := rand.New(rand.NewSource(6))
	var list, added []api.Leaf
	for range 200 {
		label := drawn(r)
		list = append(list, api.Leaf{Label: label, Value: drawn(r)})
		added = append(added, api.Leaf{Label: bits(turn(text(label), 255)), Value: drawn(r)})
	}
	expectStays(t, "pairs", list, added, plainNodes(list), api.OK)
	expectCheck(t, "pairs", rootOf(list), rootOf(list, added), plainNodes(list), added, api.OK)
}

// What stays stays: a batch that is added behind another one is told by the whole tree.
func TestBatchBehindBatch(t *testing.T) {
	r := rand.New(rand.NewSource(7))
	all := drawnLeaves(r, 120)
	r.Shuffle(len(all), func(i, j int) { all[i], all[j] = all[j], all[i] })
	for at := 0; at < len(all); {
		next := min(at+r.Intn(20), len(all))
		stay, e := grow.Stays(all[:at], all[at:next])
		if e != api.OK {
			t.Fatal(e)
		}
		expectCheck(t, "batch", rootOf(all[:at]), rootOf(all[:next]), stay, all[at:next], api.OK)
		at = max(next, at+1)
	}
}

// FuzzStays draws leaves out of bytes: labels are near one another, and some come twice.
func FuzzStays(f *testing.F) {
	f.Add([]byte{0, 1, 2, 3}, []byte{4, 200})
	f.Add([]byte{}, []byte{0, 7})
	f.Add([]byte{255, 254, 127, 128, 64, 0}, []byte{127, 1})
	f.Add([]byte{5, 6}, []byte{5})
	f.Fuzz(func(t *testing.T, there, more []byte) {
		list, added := fuzzed(there), fuzzed(more)
		if twice(slices.Concat(list, added)) {
			expectStays(t, "twice", list, added, nil, api.ErrArg)
			return
		}
		want := downTo(plainNodes(list), added)
		expectStays(t, "drawn", list, added, want, api.OK)
		expectCheck(t, "drawn", rootOf(list), rootOf(list, added), want, added, api.OK)
		flat := plainNodes(list)
		expectCheck(t, "all leaves", rootOf(list), rootOf(list, added), flat, added, api.OK)
		if len(flat) > 0 {
			whole := []api.Node{plainOver(flat)}
			before, after := rootOf(list), rootOf(list, added)
			expectCheck(t, "one node", before, after, whole, added, plainCheck(before, after, whole, added))
		}
	})
}

func fuzzed(labels []byte) []api.Leaf {
	var list []api.Leaf
	for i, b := range labels[:min(len(labels), 16)] {
		l := api.Leaf{Value: [32]byte{byte(i)}}
		l.Label[i%2*31] = b
		list = append(list, l)
	}
	return list
}
