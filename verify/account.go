package verify

import (
	"beacon/api"
	"beacon/label"
	"beacon/tree"
)

// account is one of whom something is shown, and what it is held against.
type account struct {
	name string
	vrf  [32]byte // the key under which labels are made
	root [32]byte // of the tree
}

// has answers OK, if the tree is opened at the version's label, and the devices'
// leaf stands there; ErrSig, if it doesn't. The devices are a list of devices.
func (a account) has(version uint64, devices [][32]byte, o api.Opening) api.Errno {
	l, hash, found, e := a.open(version, false, o)
	if e != api.OK {
		return e
	}
	value, e := label.Value(devices)
	if e != api.OK {
		return e
	}
	if !found || hash != tree.LeafNode(api.Leaf{Label: l, Value: value}).Hash {
		return api.ErrSig
	}
	return api.OK
}

// lacks answers OK, if the tree is opened at the version's label, fresh or stale,
// and nothing stands there; ErrSig, if something does.
func (a account) lacks(version uint64, stale bool, o api.Opening) api.Errno {
	_, _, found, e := a.open(version, stale, o)
	if e != api.OK {
		return e
	}
	if found {
		return api.ErrSig
	}
	return api.OK
}

// open answers the label of a version, fresh or stale, and the Hash that stands
// there, if one does; the error of the label's proof, or of the tree's nodes.
func (a account) open(version uint64, stale bool, o api.Opening) (l, hash [32]byte, found bool, e api.Errno) {
	l, e = label.Check(a.vrf, a.name, version, stale, o.Proof)
	if e != api.OK {
		return [32]byte{}, [32]byte{}, false, e
	}
	hash, found, e = tree.Found(a.root, o.Nodes, l)
	return l, hash, found, e
}
