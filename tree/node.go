package tree

import (
	"bytes"

	"beacon/api"
	"beacon/sha2"
)

// The byte ahead of what is hashed: by it no part of a tree has the bytes of another kind.
const (
	tagNone byte = iota
	tagLeaf
	tagJoin
	tagRoot
)

const nodeSize = 2 + 32 + 32

// Good answers whether the node's Len is from 0 to 256, and its Prefix has no bit
// from Len on.
func Good(n api.Node) bool {
	return n.Len >= 0 && n.Len <= labelBits && n.Prefix == firstBits(n.Prefix, n.Len)
}

// Holds answers whether the node is good, and the label begins with its Prefix.
func Holds(n api.Node, label [32]byte) bool {
	return Good(n) && common(n.Prefix, label) >= n.Len
}

// LeafNode answers the leaf's node.
func LeafNode(l api.Leaf) api.Node {
	b := append([]byte{tagLeaf}, l.Label[:]...)
	b = append(b, l.Value[:]...)
	return api.Node{Len: labelBits, Prefix: l.Label, Hash: sha2.Sum256(b)}
}

// Apart answers whether the nodes are good, rise, and none holds what another does.
func Apart(nodes []api.Node) bool {
	for i, n := range nodes {
		if !Good(n) || i > 0 && !apart(nodes[i-1], n) {
			return false
		}
	}
	return true
}

// apart: of good nodes that follow one another. Of rising ones neighbours are enough
// to ask: what begins with a Prefix stands right behind it, with nothing between.
func apart(n, next api.Node) bool {
	return byPrefix(n, next) < 0 && !Holds(n, next.Prefix)
}

func byPrefix(a, b api.Node) int {
	return bytes.Compare(a.Prefix[:], b.Prefix[:])
}

// join is the node over two that are apart.
func join(low, high api.Node) api.Node {
	c := common(low.Prefix, high.Prefix)
	b := make([]byte, 0, 1+2*nodeSize)
	b = append(b, tagJoin)
	b = appendNode(b, low)
	b = appendNode(b, high)
	return api.Node{Len: c, Prefix: firstBits(low.Prefix, c), Hash: sha2.Sum256(b)}
}

// appendNode is b with a good node's bytes behind it.
func appendNode(b []byte, n api.Node) []byte {
	b = append(b, byte(n.Len>>8), byte(n.Len))
	b = append(b, n.Prefix[:]...)
	return append(b, n.Hash[:]...)
}
