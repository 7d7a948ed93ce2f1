package tree_test

import (
	"cmp"
	"crypto/sha256"
	"math/rand"
	"slices"
	"strings"
	"testing"

	"beacon/api"
	"beacon/tree"
)

// A second reading of the chapter: prefixes are texts of noughts and ones, and each
// word is asked as it stands, of all pairs and of all lists, however long that takes.

// hashed is the library's SHA-256 of the tag and the parts.
func hashed(tag byte, parts ...[]byte) [32]byte {
	return sha256.Sum256(append([]byte{tag}, slices.Concat(parts...)...))
}

// text is all 256 bits.
func text(b [32]byte) string {
	var s strings.Builder
	for _, x := range b {
		for i := 7; i >= 0; i-- {
			s.WriteByte('0' + x>>i&1)
		}
	}
	return s.String()
}

// bits are the 32 bytes that begin with these bits; all others are 0.
func bits(s string) [32]byte {
	var b [32]byte
	for i := range s {
		b[i/8] |= (s[i] - '0') << (7 - i%8)
	}
	return b
}

// node has these bits, and a Hash that only such nodes have.
func node(s string) api.Node {
	return api.Node{Len: len(s), Prefix: bits(s), Hash: sha256.Sum256([]byte("node " + s))}
}

func nodes(texts ...string) []api.Node {
	var list []api.Node
	for _, s := range texts {
		list = append(list, node(s))
	}
	return list
}

// leaf has a label that begins with these bits, and a Value that only it has.
func leaf(s string) api.Leaf {
	return api.Leaf{Label: bits(s), Value: sha256.Sum256([]byte("leaf " + text(bits(s))))}
}

func leaves(texts ...string) []api.Leaf {
	var list []api.Leaf
	for _, s := range texts {
		list = append(list, leaf(s))
	}
	return list
}

func plainGood(n api.Node) bool {
	return n.Len >= 0 && n.Len <= 256 && !strings.Contains(text(n.Prefix)[n.Len:], "1")
}

func plainHolds(n api.Node, label [32]byte) bool {
	return plainGood(n) && text(label)[:n.Len] == text(n.Prefix)[:n.Len]
}

func plainApart(list []api.Node) bool {
	for i, n := range list {
		if !plainGood(n) {
			return false
		}
		for j, other := range list {
			if i != j && plainGood(other) && strings.HasPrefix(text(n.Prefix), text(other.Prefix)[:other.Len]) {
				return false
			}
			if i < j && text(n.Prefix) >= text(other.Prefix) {
				return false
			}
		}
	}
	return true
}

func plainLeafNode(l api.Leaf) api.Node {
	return api.Node{Len: 256, Prefix: l.Label, Hash: hashed(1, l.Label[:], l.Value[:])}
}

func plainBytes(n api.Node) []byte {
	return slices.Concat([]byte{byte(n.Len / 256), byte(n.Len % 256)}, n.Prefix[:], n.Hash[:])
}

// branches are what nodes, two or more, have in common, and those with 0 and with 1 behind it.
func branches(list []api.Node) (way string, noughts, ones []api.Node) {
	var texts []string
	for _, n := range list {
		texts = append(texts, text(n.Prefix))
	}
	c := 0
	for !slices.ContainsFunc(texts, func(s string) bool { return s[c] != texts[0][c] }) {
		c++
	}
	for i, n := range list {
		if texts[i][c] == '0' {
			noughts = append(noughts, n)
		} else {
			ones = append(ones, n)
		}
	}
	return texts[0][:c], noughts, ones
}

func plainOver(list []api.Node) api.Node {
	if len(list) == 1 {
		return list[0]
	}
	way, noughts, ones := branches(list)
	return api.Node{
		Len: len(way), Prefix: bits(way),
		Hash: hashed(2, plainBytes(plainOver(noughts)), plainBytes(plainOver(ones))),
	}
}

func plainRoot(list []api.Node) [32]byte {
	if len(list) == 0 {
		return hashed(0)
	}
	return hashed(3, plainBytes(plainOver(list)))
}

// plainNodes are the leaves' nodes, rising; not ok, if two have one Label.
func plainNodes(list []api.Leaf) (out []api.Node, ok bool) {
	seen := map[[32]byte]bool{}
	for _, l := range list {
		seen[l.Label] = true
		out = append(out, plainLeafNode(l))
	}
	slices.SortFunc(out, func(a, b api.Node) int { return cmp.Compare(text(a.Prefix), text(b.Prefix)) })
	return out, len(seen) == len(list)
}

// cuts are all lists of nodes that are apart and have the root of these, which are leaves'.
func cuts(list []api.Node) [][]api.Node {
	if len(list) == 0 {
		return [][]api.Node{nil}
	}
	out := [][]api.Node{{plainOver(list)}}
	if len(list) == 1 {
		return out
	}
	_, noughts, ones := branches(list)
	for _, a := range cuts(noughts) {
		for _, b := range cuts(ones) {
			out = append(out, slices.Concat(a, b))
		}
	}
	return out
}

// opens: whether a list tells of the label: no node but a leaf's own holds it.
func opens(list []api.Node, label [32]byte) bool {
	return !slices.ContainsFunc(list, func(n api.Node) bool { return plainHolds(n, label) && n.Len != 256 })
}

// plainOpen is the least of the cuts that tell of the label; there is one alone.
func plainOpen(t *testing.T, list []api.Node, label [32]byte) []api.Node {
	t.Helper()
	var least [][]api.Node
	for _, c := range cuts(list) {
		if !opens(c, label) {
			continue
		}
		if len(least) == 0 || len(c) < len(least[0]) {
			least = nil
		}
		if len(least) == 0 || len(c) == len(least[0]) {
			least = append(least, c)
		}
	}
	if len(least) != 1 {
		t.Fatalf("%d least lists", len(least))
	}
	return least[0]
}

// downTo opens a tree of any size: down the way to the label, branch by branch.
func downTo(list []api.Node, label [32]byte) []api.Node {
	if len(list) == 0 {
		return nil
	}
	if over := plainOver(list); len(list) == 1 || !plainHolds(over, label) {
		return []api.Node{over}
	}
	way, noughts, ones := branches(list)
	if text(label)[len(way)] == '0' {
		return append(downTo(noughts, label), plainOver(ones))
	}
	return append([]api.Node{plainOver(noughts)}, downTo(ones, label)...)
}

// plainFound asks in the order of the promise's sentences.
func plainFound(root [32]byte, list []api.Node, label [32]byte) (hash [32]byte, found bool, e api.Errno) {
	if !plainApart(list) {
		return hash, false, api.ErrArg
	}
	if plainRoot(list) != root {
		return hash, false, api.ErrSig
	}
	for _, n := range list {
		if plainHolds(n, label) && n.Len == 256 {
			return n.Hash, true, api.OK
		}
	}
	if !opens(list, label) {
		return hash, false, api.ErrForm
	}
	return hash, false, api.OK
}

func expectRoot(t *testing.T, what string, list []api.Node, want [32]byte, wantE api.Errno) {
	t.Helper()
	if got, e := tree.Root(list); got != want || e != wantE {
		t.Errorf("%s: Root %x, %v; want %x, %v", what, got, e, want, wantE)
	}
}

func expectOver(t *testing.T, what string, list []api.Node, want api.Node, wantE api.Errno) {
	t.Helper()
	if got, e := tree.Over(list); got != want || e != wantE {
		t.Errorf("%s: Over %v, %v; want %v, %v", what, got, e, want, wantE)
	}
}

func expectRootOf(t *testing.T, what string, list []api.Leaf, want [32]byte, wantE api.Errno) {
	t.Helper()
	if got, e := tree.RootOf(list); got != want || e != wantE {
		t.Errorf("%s: RootOf %x, %v; want %x, %v", what, got, e, want, wantE)
	}
}

func expectOpen(t *testing.T, what string, list []api.Leaf, label [32]byte, want []api.Node, wantE api.Errno) {
	t.Helper()
	if got, e := tree.Open(list, label); !slices.Equal(got, want) || e != wantE {
		t.Errorf("%s: Open %v, %v; want %v, %v", what, got, e, want, wantE)
	}
}

func expectFound(t *testing.T, what string, root [32]byte, list []api.Node, label, hash [32]byte, found bool, e api.Errno) {
	t.Helper()
	gotHash, gotFound, gotE := tree.Found(root, list, label)
	if gotHash != hash || gotFound != found || gotE != e {
		t.Errorf("%s: Found %x, %v, %v; want %x, %v, %v", what, gotHash, gotFound, gotE, hash, found, e)
	}
}

func refuseFound(t *testing.T, what string, root [32]byte, list []api.Node, label [32]byte, e api.Errno) {
	t.Helper()
	expectFound(t, what, root, list, label, [32]byte{}, false, e)
}

// nearLabel is a label that has some first bits in common with another one.
func nearLabel(r *rand.Rand, other [32]byte) [32]byte {
	s := text(other)
	keep := r.Intn(257)
	b := drawn(r)
	return bits(s[:keep] + text(b)[keep:])
}

func drawn(r *rand.Rand) (b [32]byte) {
	r.Read(b[:])
	return b
}

// drawnLeaves are leaves in no order whose labels are near one another, here and there.
func drawnLeaves(r *rand.Rand, many int) []api.Leaf {
	var list []api.Leaf
	seen := map[[32]byte]bool{}
	for len(list) < many {
		label := drawn(r)
		if len(list) > 0 && r.Intn(3) > 0 {
			label = nearLabel(r, list[r.Intn(len(list))].Label)
		}
		if !seen[label] {
			seen[label] = true
			list = append(list, api.Leaf{Label: label, Value: drawn(r)})
		}
	}
	return list
}
