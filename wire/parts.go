package wire

import (
	"slices"

	"beacon/api"
)

// How many bytes one of a kind has.
const (
	deviceSize = 32
	lenSize    = 2
	nodeSize   = lenSize + 32 + 32
	leafSize   = 32 + 32
	linkSize   = 32 + 32 + 32
)

const mostLen = 256

// lensHold: the Len of each node is one that a prefix of 32 bytes can have.
func lensHold(nodes []api.Node) bool {
	return !slices.ContainsFunc(nodes, func(n api.Node) bool { return n.Len < 0 || n.Len > mostLen })
}

func devicesBytes(list [][32]byte) []byte {
	b := make([]byte, 0, deviceSize*len(list))
	for _, d := range list {
		b = append(b, d[:]...)
	}
	return b
}

func readDevices(b []byte) ([][32]byte, bool) {
	if len(b)%deviceSize != 0 {
		return nil, false
	}
	var list [][32]byte
	for d := range slices.Chunk(b, deviceSize) {
		list = append(list, [32]byte(d))
	}
	return list, true
}

// nodesBytes: of nodes whose Len holds.
func nodesBytes(list []api.Node) []byte {
	b := make([]byte, 0, nodeSize*len(list))
	for _, n := range list {
		b = appendNumber(b, uint64(n.Len), lenSize)
		b = append(b, n.Prefix[:]...)
		b = append(b, n.Hash[:]...)
	}
	return b
}

func readNodes(b []byte) ([]api.Node, bool) {
	if len(b)%nodeSize != 0 {
		return nil, false
	}
	var list []api.Node
	for n := range slices.Chunk(b, nodeSize) {
		hashes := n[lenSize:]
		list = append(list, api.Node{
			Len: int(numberOf(n[:lenSize])), Prefix: [32]byte(hashes[:32]), Hash: [32]byte(hashes[32:]),
		})
	}
	if !lensHold(list) {
		return nil, false
	}
	return list, true
}

func leavesBytes(list []api.Leaf) []byte {
	b := make([]byte, 0, leafSize*len(list))
	for _, l := range list {
		b = append(b, l.Label[:]...)
		b = append(b, l.Value[:]...)
	}
	return b
}

func readLeaves(b []byte) ([]api.Leaf, bool) {
	if len(b)%leafSize != 0 {
		return nil, false
	}
	var list []api.Leaf
	for l := range slices.Chunk(b, leafSize) {
		list = append(list, api.Leaf{Label: [32]byte(l[:32]), Value: [32]byte(l[32:])})
	}
	return list, true
}

func linksBytes(list []api.Link) []byte {
	b := make([]byte, 0, linkSize*len(list))
	for _, l := range list {
		b = append(b, l.Old[:]...)
		b = append(b, l.New[:]...)
		b = append(b, l.Value[:]...)
	}
	return b
}

func readLinks(b []byte) ([]api.Link, bool) {
	if len(b)%linkSize != 0 {
		return nil, false
	}
	var list []api.Link
	for l := range slices.Chunk(b, linkSize) {
		list = append(list, api.Link{Old: [32]byte(l[:32]), New: [32]byte(l[32:64]), Value: [32]byte(l[64:])})
	}
	return list, true
}
