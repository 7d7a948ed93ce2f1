package grow_test

import (
	"math"
	"math/rand"
	"slices"
	"strings"
	"testing"

	"beacon/api"
	"beacon/grow"
)

// P12.2: Check. P12.4: what it has accepted holds all that was held.

func TestCheckExamples(t *testing.T) {
	none := hashed(0)
	expectCheck(t, "nothing of nothing", none, none, nil, nil, api.OK)
	expectCheck(t, "nothing of nothing", none, none, []api.Node{}, []api.Leaf{}, api.OK)
	one := []api.Node{node("010")}
	root := plainRoot(one)
	expectCheck(t, "one node, nothing added", root, root, one, nil, api.OK)
	expectCheck(t, "one node, another root", none, none, one, nil, api.ErrSig)
	expectCheck(t, "one node, another root ahead", none, root, one, nil, api.ErrSig)
	expectCheck(t, "one node, another root behind", root, none, one, nil, api.ErrSig)
	added := leaves("1", "011")
	expectCheck(t, "added to nothing", none, rootOf(added), nil, added, api.OK)
	both := putAmong(one, added)
	expectCheck(t, "added to a node", root, plainRoot(both), one, added, api.OK)
	expectCheck(t, "the roots the other way", plainRoot(both), root, one, added, api.ErrSig)
	expectCheck(t, "the root ahead twice", root, root, one, added, api.ErrSig)
	expectCheck(t, "the root behind twice", plainRoot(both), plainRoot(both), one, added, api.ErrSig)
	expectCheck(t, "less than is told", root, plainRoot(both), one, added[:1], api.ErrSig)
	expectCheck(t, "no root at all", [32]byte{}, [32]byte{}, one, added, api.ErrSig)
	expectCheck(t, "no root at all of nothing", [32]byte{}, [32]byte{}, nil, nil, api.ErrSig)
}

// Any list that is apart and has the roots is accepted, be it the least or not.
func TestCheckOfAllCuts(t *testing.T) {
	r := rand.New(rand.NewSource(10))
	for range 40 {
		list, added := grown(r, r.Intn(7), r.Intn(4))
		before, after := rootOf(list), rootOf(list, added)
		for _, c := range cuts(plainNodes(list)) {
			want := api.OK
			if slices.ContainsFunc(c, func(n api.Node) bool { return holdsAny(n, added) }) {
				want = api.ErrArg
			}
			expectCheck(t, "cut", before, after, c, added, want)
		}
	}
}

func TestCheckInAnyOrderOfAdded(t *testing.T) {
	r := rand.New(rand.NewSource(11))
	for range 30 {
		list, added := grown(r, r.Intn(12), 2+r.Intn(10))
		stay := downTo(plainNodes(list), added)
		for range 4 {
			r.Shuffle(len(added), func(i, j int) { added[i], added[j] = added[j], added[i] })
			expectCheck(t, "shuffled", rootOf(list), rootOf(list, added), stay, added, api.OK)
		}
	}
}

// refuse asks with roots that would be right if the nodes were put in order, and with
// none: in either case the nodes' order is asked first.
func refuse(t *testing.T, what string, list []api.Node, added []api.Leaf) {
	t.Helper()
	expectCheck(t, what, [32]byte{}, [32]byte{}, list, added, api.ErrArg)
	sorted := slices.Clone(list)
	slices.SortFunc(sorted, func(a, b api.Node) int { return strings.Compare(text(a.Prefix), text(b.Prefix)) })
	if plainApart(sorted) {
		before := plainRoot(sorted)
		expectCheck(t, what, before, before, list, added, api.ErrArg)
		if all := putAmong(sorted, added); plainApart(all) {
			expectCheck(t, what, before, plainRoot(all), list, added, api.ErrArg)
		}
	}
}

func TestCheckOfNodesThatAreNotApart(t *testing.T) {
	for _, added := range [][]api.Leaf{nil, leaves("111"), leaves("0001", "111", "101")} {
		refuse(t, "they fall", nodes("01", "001"), added)
		refuse(t, "they fall at the end", nodes("001", "1001", "01"), added)
		refuse(t, "the same", nodes("001", "001"), added)
		refuse(t, "one holds another", nodes("01", "011"), added)
		refuse(t, "one holds another, with the same bytes", nodes("01", "010"), added)
		refuse(t, "one is held by another", nodes("011", "01"), added)
		for _, n := range []int{-1, 257, 512, math.MinInt, math.MaxInt, 1<<16 + 8, 1<<32 + 3} {
			refuse(t, "no good Len", []api.Node{{Len: n}}, added)
			refuse(t, "no good Len", []api.Node{node("001"), {Len: n, Prefix: bits("01")}}, added)
		}
		refuse(t, "a bit behind Len", []api.Node{{Len: 2, Prefix: bits("011")}}, added)
		refuse(t, "a bit behind Len", []api.Node{node("001"), {Len: 2, Prefix: bits("011")}}, added)
	}
}

// No node may hold an added label, wherever it lies under the node.
func TestCheckOfAddedThatAreHeld(t *testing.T) {
	list := nodes("001", "01", "110")
	for _, s := range []string{"001", "0010", "0011", "00111", "01", "011", "0101", "110", "1101", "001" + strings.Repeat("1", 253), "110" + strings.Repeat("0", 252) + "1"} {
		refuse(t, "held: "+s, list, leaves(s))
		refuse(t, "held, beside others: "+s, list, leaves("000", s, "111"))
	}
	refuse(t, "under the node over all", nodes(""), leaves("1"))
	refuse(t, "the label of noughts", nodes(""), leaves(""))
	own := []api.Leaf{leaf("01")}
	for _, again := range []api.Leaf{own[0], {Label: own[0].Label, Value: [32]byte{1}}} {
		refuse(t, "there already", plainNodes(own), []api.Leaf{again})
		refuse(t, "added twice", nil, []api.Leaf{own[0], again})
		refuse(t, "added twice", nodes("1"), []api.Leaf{own[0], leaf("001"), again})
	}
	whole := text(drawn(rand.New(rand.NewSource(12))))
	for n := range 257 {
		refuse(t, "under a node of each Len", nodes(whole[:n]), leaves(whole))
		if n > 0 {
			one, added := nodes(whole[:n]), leaves(turn(whole, n-1))
			expectCheck(t, "beside a node of each Len", plainRoot(one), plainRoot(putAmong(one, added)), one, added, api.OK)
		}
	}
}

// Where both errors apply, apart is asked first; of the roots both are asked.
func TestCheckAsksInOrder(t *testing.T) {
	list, added := nodes("00", "01"), leaves("1")
	before, after := plainRoot(list), plainRoot(putAmong(list, added))
	wrong := []api.Node{list[1], list[0]}
	expectCheck(t, "right", before, after, list, added, api.OK)
	for _, b := range [][32]byte{before, after, {}} {
		for _, a := range [][32]byte{before, after, {}} {
			expectCheck(t, "they fall", b, a, wrong, added, api.ErrArg)
			expectCheck(t, "held", b, a, list, leaves("001"), api.ErrArg)
			expectCheck(t, "added twice", b, a, list, leaves("1", "1"), api.ErrArg)
			expectCheck(t, "roots", b, a, list, added, plainCheck(b, a, list, added))
		}
	}
}

func TestCheckByTurnedRoots(t *testing.T) {
	list, added := nodes("00", "01"), leaves("1")
	before, after := plainRoot(list), plainRoot(putAmong(list, added))
	for i := range 256 {
		expectCheck(t, "before turned", bits(turn(text(before), i)), after, list, added, api.ErrSig)
		expectCheck(t, "after turned", before, bits(turn(text(after), i)), list, added, api.ErrSig)
	}
}

// What is told of a step, with anything of it changed, is refused.
func TestChangedStepsAreRefused(t *testing.T) {
	r := rand.New(rand.NewSource(13))
	for range 60 {
		list, added := grown(r, 1+r.Intn(12), 1+r.Intn(6))
		before, after := rootOf(list), rootOf(list, added)
		stay := downTo(plainNodes(list), added)
		for range 20 {
			nodes, more := slices.Clone(stay), slices.Clone(added)
			i, j := r.Intn(len(nodes)), r.Intn(len(more))
			switch b := r.Intn(256); r.Intn(7) {
			case 0:
				nodes[i].Hash[b/8] ^= 1 << (b % 8)
			case 1:
				nodes[i].Prefix[b/8] ^= 1 << (b % 8)
			case 2:
				nodes[i].Len = (nodes[i].Len + 1 + b) % 257
			case 3:
				nodes = slices.Delete(nodes, i, i+1)
			case 4:
				more[j].Label[b/8] ^= 1 << (b % 8)
			case 5:
				more[j].Value[b/8] ^= 1 << (b % 8)
			case 6:
				more = slices.Delete(more, j, j+1)
			}
			want := plainCheck(before, after, nodes, more)
			if want == api.OK {
				t.Fatal("a change that changes nothing")
			}
			expectCheck(t, "changed", before, after, nodes, more, want)
		}
	}
}

// Of drawn lists, Check answers as the second reading.
func TestCheckOfDrawnLists(t *testing.T) {
	r := rand.New(rand.NewSource(14))
	told := map[api.Errno]int{}
	for range 1500 {
		list, added := grown(r, r.Intn(8), r.Intn(5))
		before, after := rootOf(list), rootOf(list, added)
		cut := drawnCut(r, list)
		if r.Intn(2) == 0 {
			cut = downTo(plainNodes(list), added)
		}
		switch r.Intn(8) {
		case 0:
			before = drawn(r)
		case 1:
			after = before
		case 2:
			slices.Reverse(cut)
		case 3:
			r.Shuffle(len(added), func(i, j int) { added[i], added[j] = added[j], added[i] })
		case 4:
			added = append(added, slices.Concat(list, added, []api.Leaf{leaf("1")})[0])
		}
		want := plainCheck(before, after, cut, added)
		told[want]++
		expectCheck(t, "drawn", before, after, cut, added, want)
	}
	if told[api.OK] < 100 || told[api.ErrArg] < 100 || told[api.ErrSig] < 100 {
		t.Errorf("a draw that tells little: %v", told)
	}
}

// smallTrees are all trees out of the labels; each has no leaf there, or one of the Values.
func smallTrees(labels []string, values int) [][]api.Leaf {
	out := [][]api.Leaf{nil}
	for _, s := range labels {
		for _, t := range out {
			for v := range values {
				l := leaf(s)
				l.Value[0] = byte(v)
				out = append(out, append(slices.Clone(t), l))
			}
		}
	}
	return out
}

func within(list, greater []api.Leaf) bool {
	return !slices.ContainsFunc(list, func(l api.Leaf) bool { return !slices.Contains(greater, l) })
}

// Of all small trees ahead, all cuts of them, all that can be told as added, and all
// trees behind: what is accepted holds all that was held, and what is added, and no more.
func TestAcceptedHoldsWhatWasHeld(t *testing.T) {
	for _, trees := range [][][]api.Leaf{
		smallTrees([]string{"00", "01", "10", "11"}, 1),
		smallTrees([]string{"00", "01", "1"}, 2),
	} {
		roots := make([][32]byte, len(trees))
		for i, list := range trees {
			roots[i] = rootOf(list)
		}
		accepted := 0
		for i, list := range trees {
			for _, cut := range cuts(plainNodes(list)) {
				for _, added := range trees {
					for j, behind := range trees {
						if grow.Check(roots[i], roots[j], cut, added) != api.OK {
							continue
						}
						accepted++
						if !within(list, behind) || !within(added, behind) || len(behind) != len(list)+len(added) {
							t.Fatalf("%v, with %v added, accepted as %v", list, added, behind)
						}
					}
				}
			}
		}
		if accepted < len(trees) {
			t.Errorf("%d accepted of %d trees", accepted, len(trees))
		}
	}
}
