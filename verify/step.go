package verify

import (
	"beacon/api"
	"beacon/grow"
	"beacon/keyring"
	"beacon/sha2"
)

const linkSize = 3 * 32

// Step answers OK, if the step's root is signed by the keys, follows the one
// before, and tells the tree that is left when what is shown is done to that one's.
// ErrArg, if it doesn't follow, or has what its Kind hasn't; ErrForm, if there is no
// such Kind; else the error of the root or of layer 12.
func Step(keys api.Keys, before api.Root, s api.Step) api.Errno {
	if !follows(before.Epoch, s.Root.Epoch) || s.Root.Prev != before.Hash {
		return api.ErrArg
	}
	if e := keyring.CheckRoot(keys, s.Root); e != api.OK {
		return e
	}
	switch s.Root.Kind {
	case api.Append:
		return appended(before, s)
	case api.Migrate:
		return migrated(before, s)
	}
	return api.ErrForm
}

func appended(before api.Root, s api.Step) api.Errno {
	if s.Root.Gen != before.Gen || s.Root.Link != [32]byte{} || len(s.Links) > 0 {
		return api.ErrArg
	}
	return grow.Check(before.Hash, s.Root.Hash, s.Nodes, s.Added)
}

func migrated(before api.Root, s api.Step) api.Errno {
	if !follows(before.Gen, s.Root.Gen) || len(s.Nodes) > 0 || len(s.Added) > 0 {
		return api.ErrArg
	}
	if s.Root.Link != sha2.Sum256(linkBytes(s.Links)) {
		return api.ErrArg
	}
	return grow.Relink(before.Hash, s.Root.Hash, s.Links)
}

// follows is asked of the later number less 1: behind the greatest one there is
// none, but 1 more would wrap round to 0.
func follows(before, after uint64) bool {
	return after > 0 && after-1 == before
}

// linkBytes are the links' as they stand: were they put in order here, a root would
// be signed for many lists.
func linkBytes(links []api.Link) []byte {
	b := make([]byte, 0, linkSize*len(links))
	for _, l := range links {
		b = append(b, l.Old[:]...)
		b = append(b, l.New[:]...)
		b = append(b, l.Value[:]...)
	}
	return b
}
