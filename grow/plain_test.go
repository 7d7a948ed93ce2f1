package grow_test

import (
	"cmp"
	"crypto/sha256"
	"encoding/hex"
	"math/rand"
	"slices"
	"strings"
	"testing"

	"beacon/api"
	"beacon/grow"
)

// A second reading of chapters 11 and 12: prefixes are texts of noughts and ones, and
// each word is asked as it stands, of all pairs and of all lists, however long that
// takes. It calls nothing of the program.

// hashed is the library's SHA-256 of the tag and the parts.
func hashed(tag byte, parts ...[]byte) [32]byte {
	return sha256.Sum256(append([]byte{tag}, slices.Concat(parts...)...))
}

// text is all 256 bits.
func text(b [32]byte) string {
	var s strings.Builder
	for _, x := range b {
		for i := 7; i >= 0; i-- {
			s.WriteByte('0' + x>>i&1)
		}
	}
	return s.String()
}

// bits are the 32 bytes that begin with these bits; all others are 0.
func bits(s string) [32]byte {
	var b [32]byte
	for i := range s {
		b[i/8] |= (s[i] - '0') << (7 - i%8)
	}
	return b
}

// turn is the text with its bit i turned.
func turn(s string, i int) string {
	b := []byte(s)
	b[i] ^= 1
	return string(b)
}

func unhex(t *testing.T, s string) (b [32]byte) {
	t.Helper()
	if n, err := hex.Decode(b[:], []byte(s)); n != 32 || err != nil {
		t.Fatal(s, err)
	}
	return b
}

// node has these bits, and a Hash that only such nodes have.
func node(s string) api.Node {
	return api.Node{Len: len(s), Prefix: bits(s), Hash: sha256.Sum256([]byte("node " + s))}
}

func nodes(texts ...string) []api.Node {
	var list []api.Node
	for _, s := range texts {
		list = append(list, node(s))
	}
	return list
}

// leaf has a label that begins with these bits, and a Value that only it has.
func leaf(s string) api.Leaf {
	return api.Leaf{Label: bits(s), Value: sha256.Sum256([]byte("leaf " + text(bits(s))))}
}

func leaves(texts ...string) []api.Leaf {
	var list []api.Leaf
	for _, s := range texts {
		list = append(list, leaf(s))
	}
	return list
}

func plainGood(n api.Node) bool {
	return n.Len >= 0 && n.Len <= 256 && !strings.Contains(text(n.Prefix)[n.Len:], "1")
}

func plainHolds(n api.Node, label [32]byte) bool {
	return plainGood(n) && text(label)[:n.Len] == text(n.Prefix)[:n.Len]
}

func plainApart(list []api.Node) bool {
	for i, n := range list {
		if !plainGood(n) {
			return false
		}
		for j, other := range list {
			if i != j && plainHolds(other, n.Prefix) || i < j && text(n.Prefix) >= text(other.Prefix) {
				return false
			}
		}
	}
	return true
}

func plainLeafNode(l api.Leaf) api.Node {
	return api.Node{Len: 256, Prefix: l.Label, Hash: hashed(1, l.Label[:], l.Value[:])}
}

func plainBytes(n api.Node) []byte {
	return slices.Concat([]byte{byte(n.Len / 256), byte(n.Len % 256)}, n.Prefix[:], n.Hash[:])
}

// branches are what nodes, two or more, have in common, and those with 0 and with 1 behind it.
func branches(list []api.Node) (way string, noughts, ones []api.Node) {
	var texts []string
	for _, n := range list {
		texts = append(texts, text(n.Prefix))
	}
	c := 0
	for !slices.ContainsFunc(texts, func(s string) bool { return s[c] != texts[0][c] }) {
		c++
	}
	for i, n := range list {
		if texts[i][c] == '0' {
			noughts = append(noughts, n)
		} else {
			ones = append(ones, n)
		}
	}
	return texts[0][:c], noughts, ones
}

func plainOver(list []api.Node) api.Node {
	if len(list) == 1 {
		return list[0]
	}
	way, noughts, ones := branches(list)
	return api.Node{
		Len: len(way), Prefix: bits(way),
		Hash: hashed(2, plainBytes(plainOver(noughts)), plainBytes(plainOver(ones))),
	}
}

func plainRoot(list []api.Node) [32]byte {
	if len(list) == 0 {
		return hashed(0)
	}
	return hashed(3, plainBytes(plainOver(list)))
}

// plainNodes are the leaves' nodes, rising.
func plainNodes(list []api.Leaf) []api.Node {
	var out []api.Node
	for _, l := range list {
		out = append(out, plainLeafNode(l))
	}
	slices.SortFunc(out, func(a, b api.Node) int { return cmp.Compare(text(a.Prefix), text(b.Prefix)) })
	return out
}

// rootOf is the root of leaves of which no two have one Label.
func rootOf(lists ...[]api.Leaf) [32]byte {
	return plainRoot(plainNodes(slices.Concat(lists...)))
}

func twice(list []api.Leaf) bool {
	seen := map[[32]byte]bool{}
	for _, l := range list {
		seen[l.Label] = true
	}
	return len(seen) < len(list)
}

// cuts are all lists of nodes that are apart and have the root of these, which are leaves'.
func cuts(list []api.Node) [][]api.Node {
	if len(list) == 0 {
		return [][]api.Node{nil}
	}
	out := [][]api.Node{{plainOver(list)}}
	if len(list) == 1 {
		return out
	}
	_, noughts, ones := branches(list)
	for _, a := range cuts(noughts) {
		for _, b := range cuts(ones) {
			out = append(out, slices.Concat(a, b))
		}
	}
	return out
}

func holdsAny(n api.Node, added []api.Leaf) bool {
	return slices.ContainsFunc(added, func(l api.Leaf) bool { return plainHolds(n, l.Label) })
}

// plainStays is the least of the cuts that hold no added label; there is one alone.
func plainStays(t *testing.T, list, added []api.Leaf) []api.Node {
	t.Helper()
	var least [][]api.Node
	for _, c := range cuts(plainNodes(list)) {
		if slices.ContainsFunc(c, func(n api.Node) bool { return holdsAny(n, added) }) {
			continue
		}
		if len(least) == 0 || len(c) < len(least[0]) {
			least = nil
		}
		if len(least) == 0 || len(c) == len(least[0]) {
			least = append(least, c)
		}
	}
	if len(least) != 1 {
		t.Fatalf("%d least lists", len(least))
	}
	return least[0]
}

// downTo is what stays of leaves' nodes of a tree of any size, branch by branch.
func downTo(list []api.Node, added []api.Leaf) []api.Node {
	if len(list) == 0 {
		return nil
	}
	if over := plainOver(list); !holdsAny(over, added) {
		return []api.Node{over}
	}
	_, noughts, ones := branches(list)
	return append(downTo(noughts, added), downTo(ones, added)...)
}

// putAmong is the list with each added leaf's node ahead of the first one that is greater.
func putAmong(list []api.Node, added []api.Leaf) []api.Node {
	out := slices.Clone(list)
	for _, l := range added {
		at := slices.IndexFunc(out, func(n api.Node) bool { return text(n.Prefix) > text(l.Label) })
		if at < 0 {
			at = len(out)
		}
		out = slices.Insert(out, at, plainLeafNode(l))
	}
	return out
}

// plainCheck asks in the order of the promise's sentences.
func plainCheck(before, after [32]byte, list []api.Node, added []api.Leaf) api.Errno {
	all := putAmong(list, added)
	if !plainApart(all) {
		return api.ErrArg
	}
	if plainRoot(list) != before || plainRoot(all) != after {
		return api.ErrSig
	}
	return api.OK
}

// sides are the links' leaves ahead and behind.
func sides(links []api.Link) (ahead, behind []api.Leaf) {
	for _, l := range links {
		ahead = append(ahead, api.Leaf{Label: l.Old, Value: l.Value})
		behind = append(behind, api.Leaf{Label: l.New, Value: l.Value})
	}
	return ahead, behind
}

func plainRelink(before, after [32]byte, links []api.Link) api.Errno {
	ahead, behind := sides(links)
	if twice(ahead) || twice(behind) {
		return api.ErrArg
	}
	if rootOf(ahead) != before || rootOf(behind) != after {
		return api.ErrSig
	}
	return api.OK
}

func expectStays(t *testing.T, what string, list, added []api.Leaf, want []api.Node, wantE api.Errno) {
	t.Helper()
	if got, e := grow.Stays(list, added); !slices.Equal(got, want) || e != wantE {
		t.Errorf("%s: Stays %v, %v; want %v, %v", what, got, e, want, wantE)
	}
}

func expectCheck(t *testing.T, what string, before, after [32]byte, list []api.Node, added []api.Leaf, want api.Errno) {
	t.Helper()
	if got := grow.Check(before, after, list, added); got != want {
		t.Errorf("%s: Check %v; want %v", what, got, want)
	}
}

func expectRelink(t *testing.T, what string, before, after [32]byte, links []api.Link, want api.Errno) {
	t.Helper()
	if got := grow.Relink(before, after, links); got != want {
		t.Errorf("%s: Relink %v; want %v", what, got, want)
	}
}

func drawn(r *rand.Rand) (b [32]byte) {
	r.Read(b[:])
	return b
}

// nearLabel is a label that has some first bits in common with another one.
func nearLabel(r *rand.Rand, other [32]byte) [32]byte {
	keep := r.Intn(257)
	return bits(text(other)[:keep] + text(drawn(r))[keep:])
}

// drawnLeaves are leaves in no order whose labels are near one another, here and there.
func drawnLeaves(r *rand.Rand, many int) []api.Leaf {
	var list []api.Leaf
	seen := map[[32]byte]bool{}
	for len(list) < many {
		label := drawn(r)
		if len(list) > 0 && r.Intn(3) > 0 {
			label = nearLabel(r, list[r.Intn(len(list))].Label)
		}
		if !seen[label] {
			seen[label] = true
			list = append(list, api.Leaf{Label: label, Value: drawn(r)})
		}
	}
	return list
}

// drawnCut is one of the ways to cut a tree.
func drawnCut(r *rand.Rand, list []api.Leaf) []api.Node {
	var cut func(list []api.Node) []api.Node
	cut = func(list []api.Node) []api.Node {
		if len(list) == 0 {
			return nil
		}
		if len(list) == 1 || r.Intn(6) == 0 {
			return []api.Node{plainOver(list)}
		}
		_, noughts, ones := branches(list)
		return append(cut(noughts), cut(ones)...)
	}
	return cut(plainNodes(list))
}
