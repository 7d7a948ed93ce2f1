package wire

import (
	"slices"

	"beacon/api"
)

// Each thing begins with its word, so that the bytes of one can't stand for
// those of another.
const (
	rootWord   = "root"
	signedWord = "signed"
	lookupWord = "lookup"
	stepWord   = "step"
)

// RootBytes answers what is signed of a root: all of it but the signature.
func RootBytes(r api.Root) []byte {
	// Neither here nor in EncodeRoot can there be too many bytes: no part of a
	// root is of any length.
	b, _ := Encode([][]byte{
		[]byte(rootWord), Num(r.Epoch), Num(r.Kind), Num(r.Gen), r.Prev[:], r.Hash[:], r.Link[:],
	})
	return b
}

// EncodeRoot answers the root's bytes.
func EncodeRoot(r api.Root) []byte {
	b, _ := Encode([][]byte{[]byte(signedWord), RootBytes(r), r.Sig[:]})
	return b
}

// DecodeRoot answers the root whose bytes are b; ErrForm, if there is none.
func DecodeRoot(b []byte) (api.Root, api.Errno) {
	f, ok := fields(b, signedWord, 2)
	if !ok || len(f[1]) != 64 {
		return api.Root{}, api.ErrForm
	}
	r, ok := readUnsigned(f[0])
	if !ok {
		return api.Root{}, api.ErrForm
	}
	r.Sig = [64]byte(f[1])
	return r, api.OK
}

// EncodeLookup answers the lookup's bytes; ErrArg, if a node's Len can't be
// one, and ErrLarge, if they are too many.
func EncodeLookup(l api.Lookup) ([]byte, api.Errno) {
	if !lensHold(l.Fresh.Nodes) || !lensHold(l.Stale.Nodes) {
		return nil, api.ErrArg
	}
	return Encode([][]byte{
		[]byte(lookupWord), EncodeRoot(l.Root), []byte(l.Account), Num(l.Version), devicesBytes(l.Devices),
		l.Fresh.Proof[:], nodesBytes(l.Fresh.Nodes), l.Stale.Proof[:], nodesBytes(l.Stale.Nodes),
	})
}

// DecodeLookup answers the lookup whose bytes are b; ErrForm, if there is none.
func DecodeLookup(b []byte) (api.Lookup, api.Errno) {
	f, ok := fields(b, lookupWord, 8)
	if !ok {
		return api.Lookup{}, api.ErrForm
	}
	root, rootErr := DecodeRoot(f[0])
	version, versionErr := ReadNum(f[2])
	devices, devicesOK := readDevices(f[3])
	fresh, freshOK := readOpening(f[4], f[5])
	stale, staleOK := readOpening(f[6], f[7])
	if rootErr != api.OK || versionErr != api.OK || !devicesOK || !freshOK || !staleOK {
		return api.Lookup{}, api.ErrForm
	}
	return api.Lookup{
		Root: root, Account: string(f[1]), Version: version, Devices: devices, Fresh: fresh, Stale: stale,
	}, api.OK
}

// EncodeStep answers the step's bytes; ErrArg, if a node's Len can't be one,
// and ErrLarge, if they are too many.
func EncodeStep(s api.Step) ([]byte, api.Errno) {
	if !lensHold(s.Nodes) {
		return nil, api.ErrArg
	}
	return Encode([][]byte{
		[]byte(stepWord), EncodeRoot(s.Root), nodesBytes(s.Nodes), leavesBytes(s.Added), linksBytes(s.Links),
	})
}

// DecodeStep answers the step whose bytes are b; ErrForm, if there is none.
func DecodeStep(b []byte) (api.Step, api.Errno) {
	f, ok := fields(b, stepWord, 4)
	if !ok {
		return api.Step{}, api.ErrForm
	}
	root, rootErr := DecodeRoot(f[0])
	nodes, nodesOK := readNodes(f[1])
	added, addedOK := readLeaves(f[2])
	links, linksOK := readLinks(f[3])
	if rootErr != api.OK || !nodesOK || !addedOK || !linksOK {
		return api.Step{}, api.ErrForm
	}
	return api.Step{Root: root, Nodes: nodes, Added: added, Links: links}, api.OK
}

// fields are what stands behind the word in the list whose bytes are b; not ok,
// if it isn't that word and just so many behind it. Bytes that Decode finds too
// many are no thing's: they have no error of their own here.
func fields(b []byte, word string, count int) ([][]byte, bool) {
	list, e := Decode(b)
	if e != api.OK || len(list) != 1+count || string(list[0]) != word {
		return nil, false
	}
	return list[1:], true
}

// readUnsigned is the root, without a signature, whose RootBytes are b.
func readUnsigned(b []byte) (api.Root, bool) {
	f, ok := fields(b, rootWord, 6)
	if !ok {
		return api.Root{}, false
	}
	epoch, epochErr := ReadNum(f[0])
	kind, kindErr := ReadNum(f[1])
	gen, genErr := ReadNum(f[2])
	if epochErr != api.OK || kindErr != api.OK || genErr != api.OK {
		return api.Root{}, false
	}
	if slices.ContainsFunc(f[3:], func(hash []byte) bool { return len(hash) != 32 }) {
		return api.Root{}, false
	}
	return api.Root{
		Epoch: epoch, Kind: kind, Gen: gen, Prev: [32]byte(f[3]), Hash: [32]byte(f[4]), Link: [32]byte(f[5]),
	}, true
}

// readOpening is the opening with this proof and the nodes whose bytes are b.
func readOpening(proof, b []byte) (api.Opening, bool) {
	nodes, ok := readNodes(b)
	if !ok || len(proof) != 80 {
		return api.Opening{}, false
	}
	return api.Opening{Proof: [80]byte(proof), Nodes: nodes}, true
}
