package directory

import (
	"slices"
	"strings"

	"beacon/api"
	"beacon/grow"
	"beacon/label"
	"beacon/wire"
)

// Publish makes an epoch of the batch; ErrArg, if it has no updates or too many, an
// account or list of devices that is none, or an account twice; ErrBusy, if the
// directory is moving.
func (d *Dir) Publish(batch []api.Update) (api.Root, api.Errno) {
	if d.missing() || !isBatch(batch) {
		return api.Root{}, api.ErrArg
	}
	if d.moving != nil {
		return api.Root{}, api.ErrBusy
	}
	var added []leaf
	for _, u := range batch {
		added = append(added, d.take(u)...)
	}
	sortByLabel(added)
	s := api.Step{Added: shown(added)}
	s.Nodes, _ = grow.Stays(shown(d.leaves), s.Added)
	d.leaves = append(d.leaves, added...)
	sortByLabel(d.leaves)
	s.Root = d.following(api.Append)
	return d.publish(s), api.OK
}

// isBatch answers what Publish asks of the batch alone.
func isBatch(batch []api.Update) bool {
	if len(batch) < 1 || len(batch) > api.MostBatch {
		return false
	}
	for i, u := range batch {
		twice := slices.ContainsFunc(batch[:i], func(other api.Update) bool { return other.Account == u.Account })
		if twice || !wire.Account(u.Account) || !wire.Devices(u.Devices) {
			return false
		}
	}
	return true
}

// take puts the list behind the account's others, and answers the leaves that tell
// of it: its own, and the one by which the list ahead of it is stale.
func (d *Dir) take(u api.Update) []leaf {
	account := strings.Clone(u.Account)
	d.versions[account] = append(d.versions[account], slices.Clone(u.Devices))
	version := uint64(len(d.versions[account]))
	value, _ := label.Value(u.Devices)
	added := []leaf{d.newLeaf(account, version, false, value)}
	if version > 1 {
		added = append(added, d.newLeaf(account, version-1, true, label.Mark()))
	}
	return added
}

func (d *Dir) newLeaf(account string, version uint64, stale bool, value [32]byte) leaf {
	l, _ := labelOf(d.secret, account, version, stale)
	return leaf{Leaf: api.Leaf{Label: l, Value: value}, account: account, version: version, stale: stale}
}
