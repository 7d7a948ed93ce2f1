package directory

import (
	"slices"
	"strings"

	"beacon/api"
	"beacon/tree"
	"beacon/wire"
)

// Lookup answers what is shown of an account's latest list, by the latest epoch;
// ErrArg, if it is no account.
func (d *Dir) Lookup(account string) (api.Lookup, api.Errno) {
	if d.missing() || !wire.Account(account) {
		return api.Lookup{}, api.ErrArg
	}
	devices, many := d.Devices(account)
	version := uint64(many)
	leaves := shown(d.leaves)
	l := api.Lookup{
		Root:    d.Root(),
		Account: strings.Clone(account),
		Version: version,
		Devices: devices,
		// Of an account without a list: that it has no first one.
		Fresh: d.opening(leaves, account, max(version, 1), false),
	}
	if version > 0 {
		l.Stale = d.opening(leaves, account, version, true)
	}
	return l, api.OK
}

// History answers what is shown of all lists of an account, by the latest epoch;
// ErrArg, if it is no account.
func (d *Dir) History(account string) (api.History, api.Errno) {
	if d.missing() || !wire.Account(account) {
		return api.History{}, api.ErrArg
	}
	leaves := shown(d.leaves)
	h := api.History{Root: d.Root(), Account: strings.Clone(account)}
	version := uint64(1)
	for _, devices := range d.versions[account] {
		h.Versions = append(h.Versions, slices.Clone(devices))
		h.Fresh = append(h.Fresh, d.opening(leaves, account, version, false))
		version++
	}
	h.Next = d.opening(leaves, account, version, false)
	return h, api.OK
}

// opening is a label of the latest epoch's generation by its proof, and the tree of
// the leaves opened there.
func (d *Dir) opening(leaves []api.Leaf, account string, version uint64, stale bool) api.Opening {
	l, proof := labelOf(d.secret, account, version, stale)
	nodes, _ := tree.Open(leaves, l)
	return api.Opening{Proof: proof, Nodes: nodes}
}
