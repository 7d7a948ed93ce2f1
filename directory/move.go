package directory

import (
	"beacon/api"
	"beacon/keyring"
	"beacon/sha2"
)

const linkSize = 3 * 32

// Rotate begins a move to the generation of the secret, and answers its
// certificate; ErrBusy, if the directory is moving.
func (d *Dir) Rotate(secret [32]byte) (api.Cert, api.Errno) {
	if d.missing() {
		return api.Cert{}, api.ErrArg
	}
	if d.moving != nil {
		return api.Cert{}, api.ErrBusy
	}
	last := d.Root()
	// While it moves no other epoch is published: the next one is the move's.
	c := keyring.Certify(d.secret, keyring.Public(secret, last.Gen+1), last.Epoch+1)
	d.certs = append(d.certs, c)
	d.moving = &move{secret: secret}
	return c, api.OK
}

// Move makes up to so many labels more; when none is left, it publishes the epoch,
// and answers its Root and true. ErrArg, if most isn't from 1 to MostItems;
// ErrNone, if the directory isn't moving.
func (d *Dir) Move(most int) (api.Root, bool, api.Errno) {
	if d.missing() || most < 1 || most > api.MostItems {
		return api.Root{}, false, api.ErrArg
	}
	if d.moving == nil {
		return api.Root{}, false, api.ErrNone
	}
	left := d.leaves[len(d.moving.made):]
	for _, l := range left[:min(most, len(left))] {
		fresh, _ := labelOf(d.moving.secret, l.account, l.version, l.stale)
		d.moving.made = append(d.moving.made, fresh)
	}
	if len(d.moving.made) < len(d.leaves) {
		return d.Root(), false, api.OK
	}
	return d.arrive(), true, api.OK
}

// arrive publishes the epoch of a move whose labels are all made.
func (d *Dir) arrive() api.Root {
	links := d.relabel(d.moving.made)
	d.secret = d.moving.secret
	d.moving = nil
	root := d.following(api.Migrate)
	root.Gen++
	root.Link = sha2.Sum256(linkBytes(links))
	return d.publish(api.Step{Root: root, Links: links})
}

// relabel lays the new labels on the leaves, and answers the links between old and
// new, by rising old ones.
func (d *Dir) relabel(made [][32]byte) []api.Link {
	links := make([]api.Link, 0, len(made))
	for i, fresh := range made {
		l := &d.leaves[i]
		links = append(links, api.Link{Old: l.Label, New: fresh, Value: l.Value})
		l.Label = fresh
	}
	sortByLabel(d.leaves)
	return links
}

func linkBytes(links []api.Link) []byte {
	b := make([]byte, 0, linkSize*len(links))
	for _, l := range links {
		b = append(b, l.Old[:]...)
		b = append(b, l.New[:]...)
		b = append(b, l.Value[:]...)
	}
	return b
}
