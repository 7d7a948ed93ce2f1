package grow_test

import (
	"crypto/sha256"
	"math/rand"
	"slices"
	"testing"

	"beacon/api"
)

// P12.3: Relink.

func link(old, fresh string, value byte) api.Link {
	return api.Link{Old: bits(old), New: bits(fresh), Value: [32]byte{value}}
}

// linkRoots are the roots that the links, of which no two have one Old or one New, ask for.
func linkRoots(links []api.Link) (before, after [32]byte) {
	ahead, behind := sides(links)
	return rootOf(ahead), rootOf(behind)
}

func TestRelinkExamples(t *testing.T) {
	none := hashed(0)
	for _, links := range [][]api.Link{nil, {}} {
		expectRelink(t, "none", none, none, links, api.OK)
		expectRelink(t, "none, another root ahead", [32]byte{}, none, links, api.ErrSig)
		expectRelink(t, "none, another root behind", none, [32]byte{}, links, api.ErrSig)
	}
	links := []api.Link{link("0", "11", 5), link("1", "10", 6)}
	before, after := linkRoots(links)
	expectRelink(t, "two", before, after, links, api.OK)
	expectRelink(t, "one left out", before, after, links[:1], api.ErrSig)
	expectRelink(t, "the roots the other way", after, before, links, api.ErrSig)
	expectRelink(t, "the root ahead twice", before, before, links, api.ErrSig)
	expectRelink(t, "the root behind twice", after, after, links, api.ErrSig)
	slices.Reverse(links)
	expectRelink(t, "in another order", before, after, links, api.OK)
	links[0].Value, links[1].Value = links[1].Value, links[0].Value
	expectRelink(t, "Values changed for one another", before, after, links, api.ErrSig)
}

// The numbers were worked out beside the program, in another language.
func TestKnownLinks(t *testing.T) {
	var links []api.Link
	for i, l := range known()[:10] {
		links = append(links, api.Link{Old: l.Label, New: sha256.Sum256([]byte{'n', 'e', 'w', byte(i)}), Value: l.Value})
	}
	before := unhex(t, "1f5f20d25a314fe24c44f67ac6221f2d2a4adfed25bd9dac545a2913922273fa")
	after := unhex(t, "2e1d99cdac3a66b1e47ffb47675a6d35b82cc42bec387be7c8fd85f0d8ae8697")
	expectRelink(t, "known", before, after, links, api.OK)
}

// Labels may be kept, and go from one link to another: an Old may be a New.
func TestRelinkOfOldThatAreNew(t *testing.T) {
	for _, links := range [][]api.Link{
		{link("0", "0", 1)},
		{link("0", "0", 1), link("1", "1", 2)},
		{link("0", "1", 1), link("1", "0", 2)},
		{link("0", "1", 1), link("1", "01", 2), link("01", "0", 3)},
		{link("0", "1", 7), link("1", "0", 7)},
	} {
		before, after := linkRoots(links)
		expectRelink(t, "an Old that is a New", before, after, links, api.OK)
		expectRelink(t, "another root", before, [32]byte{}, links, api.ErrSig)
	}
}

// Two with one Old, or one New, are refused whatever the roots and the Values.
func TestRelinkOfOneLabelTwice(t *testing.T) {
	for _, links := range [][]api.Link{
		{link("0", "11", 1), link("0", "10", 1)},
		{link("0", "11", 1), link("0", "10", 2)},
		{link("0", "11", 1), link("1", "11", 1)},
		{link("0", "11", 1), link("1", "11", 2)},
		{link("0", "11", 1), link("0", "11", 1)},
		{link("0", "11", 1), link("1", "10", 2), link("0", "01", 3)},
		{link("0", "11", 1), link("1", "10", 2), link("01", "11", 3)},
		{{}, {}},
	} {
		expectRelink(t, "twice", [32]byte{}, [32]byte{}, links, api.ErrArg)
		before, after := linkRoots(links[:1])
		expectRelink(t, "twice, the roots of the first one", before, after, links, api.ErrArg)
		if ahead, _ := sides(links); !twice(ahead) {
			expectRelink(t, "one New twice, the root ahead right", rootOf(ahead), after, links, api.ErrArg)
		}
		if _, behind := sides(links); !twice(behind) {
			expectRelink(t, "one Old twice, the root behind right", before, rootOf(behind), links, api.ErrArg)
		}
	}
}

func TestRelinkByTurnedRoots(t *testing.T) {
	links := []api.Link{link("0", "11", 5), link("1", "10", 6), link("01", "0", 7)}
	before, after := linkRoots(links)
	for i := range 256 {
		expectRelink(t, "before turned", bits(turn(text(before), i)), after, links, api.ErrSig)
		expectRelink(t, "after turned", before, bits(turn(text(after), i)), links, api.ErrSig)
	}
}

// drawnLinks are links of which no two have one Old or one New.
func drawnLinks(r *rand.Rand, many int) []api.Link {
	var links []api.Link
	news := drawnLeaves(r, many)
	for i, l := range drawnLeaves(r, many) {
		links = append(links, api.Link{Old: l.Label, New: news[i].Label, Value: l.Value})
	}
	return links
}

// With anything changed, Relink answers as the second reading.
func TestRelinkOfDrawnLinks(t *testing.T) {
	r := rand.New(rand.NewSource(20))
	told := map[api.Errno]int{}
	for range 1000 {
		links := drawnLinks(r, 1+r.Intn(10))
		before, after := linkRoots(links)
		i, j := r.Intn(len(links)), r.Intn(len(links))
		switch b := r.Intn(256); r.Intn(10) {
		case 0:
			links[i].Old[b/8] ^= 1 << (b % 8)
		case 1:
			links[i].New[b/8] ^= 1 << (b % 8)
		case 2:
			links[i].Value[b/8] ^= 1 << (b % 8)
		case 3:
			links[i].Old = links[j].Old
		case 4:
			links[i].New = links[j].New
		case 5:
			links[i].New, links[j].New = links[j].New, links[i].New
		case 6:
			links[i], links[j] = links[j], links[i]
		case 7:
			links = slices.Delete(links, i, i+1)
		case 8:
			links[i].Old, links[i].New = links[i].New, links[i].Old
		}
		want := plainRelink(before, after, links)
		told[want]++
		expectRelink(t, "drawn", before, after, links, want)
	}
	if told[api.OK] < 50 || told[api.ErrArg] < 50 || told[api.ErrSig] < 50 {
		t.Errorf("a draw that tells little: %v", told)
	}
	many := drawnLinks(r, 400)
	before, after := linkRoots(many)
	expectRelink(t, "many", before, after, many, api.OK)
}
