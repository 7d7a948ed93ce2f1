package verify_test

import (
	"math"
	"slices"
	"testing"

	"beacon/api"
	"beacon/keyring"
	"beacon/verify"
	"beacon/wire"
)

// P17.1: Lookup. And P17.4: LookupBytes says the same of the lookup's bytes.

var secret = [32]byte{1, 2, 3}

// lookupCase is a lookup, what it is made of, and the keys it is shown under.
type lookupCase struct {
	keys api.Keys
	tree entries
	l    api.Lookup
}

// lookupOf is the lookup that tells of the account as it is asked for, whatever the tree holds.
func lookupOf(tree entries, account string, version uint64, list [][32]byte, faults ...fault[lookupCase]) lookupCase {
	c := lookupCase{keys: keyring.Public(secret, 4), tree: tree}
	lay(&c, ofTheTree, faults)
	c.l = api.Lookup{
		Root:    api.Root{Epoch: 9, Kind: api.Append, Gen: 4, Prev: [32]byte{5}, Hash: c.tree.root(secret)},
		Account: account,
		Version: version,
		Devices: list,
		Fresh:   c.tree.opening(secret, fresh(account, max(version, 1))),
	}
	if version > 0 {
		c.l.Stale = c.tree.opening(secret, stale(account, version))
	}
	lay(&c, ofTheShown, faults)
	c.l.Root = keyring.SignRoot(secret, c.l.Root)
	lay(&c, ofTheSig, faults)
	return c
}

// ask is Lookup's answer, held against that of LookupBytes.
func (c lookupCase) ask(t *testing.T) api.Errno {
	t.Helper()
	e := verify.Lookup(c.keys, c.l)
	b, refused := wire.EncodeLookup(c.l)
	if refused != api.OK {
		return e
	}
	got, f := verify.LookupBytes(c.keys, b)
	want := c.l
	if e != api.OK {
		want = api.Lookup{}
	}
	if f != e || !alike(got, want) {
		t.Errorf("LookupBytes: %v %v, want %v %v", got, f, want, e)
	}
	return e
}

func (c lookupCase) expect(t *testing.T, what string, want api.Errno) {
	t.Helper()
	if e := c.ask(t); e != want {
		t.Errorf("%s: %v, want %v", what, e, want)
	}
}

// twice holds two versions of an account: the second one is the latest.
func twice(account string) entries {
	all := some()
	all[fresh(account, 1)] = value(devices(1))
	all[stale(account, 1)] = mark()
	all[fresh(account, 2)] = value(devices(2, 3))
	return all
}

func lookupRoot(c *lookupCase) *api.Root { return &c.l.Root }

func lookupKeys(c *lookupCase) *api.Keys { return &c.keys }

func lookupFresh(c *lookupCase) *api.Opening { return &c.l.Fresh }

func lookupStale(c *lookupCase) *api.Opening { return &c.l.Stale }

func TestLookupsQuestionsInOrder(t *testing.T) {
	type c = lookupCase
	faults := slices.Concat(
		[]fault[c]{
			{"no account", api.ErrArg, ofTheShown, func(c *c) { c.l.Account = "A" }},
			{"an empty account", api.ErrArg, ofTheShown, func(c *c) { c.l.Account = "" }},
			{"devices that don't rise", api.ErrArg, ofTheShown, func(c *c) { c.l.Devices = devices(3, 2) }},
			{"a device twice", api.ErrArg, ofTheShown, func(c *c) { c.l.Devices = devices(3, 3) }},
			{"9 devices", api.ErrArg, ofTheShown, func(c *c) { c.l.Devices = devices(1, 2, 3, 4, 5, 6, 7, 8, 9) }},
		},
		rootFaults(lookupKeys, lookupRoot),
		vrfFaults(lookupKeys),
		openingFaults("fresh", lookupFresh, prove(secret, stale("a", 2)).proof),
		[]fault[c]{
			{"not there", api.ErrSig, ofTheTree, func(c *c) { delete(c.tree, fresh("a", 2)) }},
			{"something else there", api.ErrSig, ofTheTree, func(c *c) { c.tree[fresh("a", 2)] = mark() }},
			{"other devices", api.ErrSig, ofTheShown, func(c *c) { c.l.Devices = devices(2, 4) }},
			{"a device less", api.ErrSig, ofTheShown, func(c *c) { c.l.Devices = devices(2) }},
			{"no devices", api.ErrSig, ofTheShown, func(c *c) { c.l.Devices = nil }},
		},
		openingFaults("stale", lookupStale, prove(secret, fresh("a", 2)).proof),
		[]fault[c]{
			{"stale", api.ErrSig, ofTheTree, func(c *c) { c.tree[stale("a", 2)] = mark() }},
			{"stale by another value", api.ErrSig, ofTheTree, func(c *c) { c.tree[stale("a", 2)] = [32]byte{7} }},
		},
	)
	inOrder(t, faults, func(faults []fault[c]) api.Errno {
		return lookupOf(twice("a"), "a", 2, devices(2, 3), faults...).ask(t)
	})
}

func TestLookupsQuestionsInOrderOfVersion0(t *testing.T) {
	type c = lookupCase
	faults := slices.Concat(
		[]fault[c]{
			{"no account", api.ErrArg, ofTheShown, func(c *c) { c.l.Account = "a b" }},
			{"devices that don't rise", api.ErrArg, ofTheShown, func(c *c) { c.l.Devices = devices(3, 2) }},
			{"a device", api.ErrArg, ofTheShown, func(c *c) { c.l.Devices = devices(0) }},
			{"a stale proof", api.ErrArg, ofTheShown, func(c *c) { c.l.Stale.Proof[79] = 1 }},
			{"a stale node", api.ErrArg, ofTheShown, func(c *c) { c.l.Stale.Nodes = make([]api.Node, 1) }},
			{"a stale opening that holds", api.ErrArg, ofTheShown, func(c *c) { c.l.Stale = c.tree.opening(secret, stale("nobody", 1)) }},
		},
		rootFaults(lookupKeys, lookupRoot),
		vrfFaults(lookupKeys),
		openingFaults("fresh", lookupFresh, prove(secret, fresh("nobody", 2)).proof),
		[]fault[c]{
			{"a list there", api.ErrSig, ofTheTree, func(c *c) { c.tree[fresh("nobody", 1)] = value(devices(1)) }},
			{"an empty list there", api.ErrSig, ofTheTree, func(c *c) { c.tree[fresh("nobody", 1)] = value(nil) }},
			{"anything there", api.ErrSig, ofTheTree, func(c *c) { c.tree[fresh("nobody", 1)] = [32]byte{} }},
		},
	)
	inOrder(t, faults, func(faults []fault[c]) api.Errno {
		return lookupOf(some(), "nobody", 0, nil, faults...).ask(t)
	})
}

// A root that is signed is enough: of its numbers a lookup asks Gen alone.
func TestLookupAsksOfTheRootTheGenerationAlone(t *testing.T) {
	for _, r := range []api.Root{
		{Epoch: 0, Kind: 0},
		{Epoch: math.MaxUint64, Kind: math.MaxUint64, Gen: math.MaxUint64},
		{Epoch: 1, Kind: api.Migrate, Gen: 7, Prev: [32]byte{1}, Link: [32]byte{2}},
	} {
		for _, version := range []uint64{0, 2} {
			account := map[uint64]string{0: "nobody", 2: "a"}[version]
			list := map[uint64][][32]byte{2: devices(2, 3)}[version]
			c := lookupOf(twice("a"), account, version, list, fault[lookupCase]{when: ofTheShown, do: func(c *lookupCase) {
				r.Hash = c.l.Root.Hash
				c.l.Root, c.keys.Gen = r, r.Gen
			}})
			c.expect(t, "any root", api.OK)
			c.keys.Gen++
			c.expect(t, "keys of the next generation", api.ErrArg)
			c.keys.Gen -= 2
			c.expect(t, "keys of the generation ahead", api.ErrArg)
		}
	}
}

// The keys count as well as the root: another's are refused where they are asked.
func TestLookupUnderOtherKeys(t *testing.T) {
	other := keyring.Public([32]byte{9}, 4)
	for _, c := range []lookupCase{lookupOf(twice("a"), "a", 2, devices(2, 3)), lookupOf(some(), "nobody", 0, nil)} {
		own := c.keys
		c.keys.Sign = other.Sign
		c.expect(t, "another's signing key", api.ErrSig)
		c.keys = own
		c.keys.Vrf = other.Vrf
		c.expect(t, "another's VRF key", api.ErrSig)
	}
}

func TestLookupsOfAllSizes(t *testing.T) {
	longest := "0123456789abcdefghijklmnopqrst._"
	for _, account := range []string{"a", "-", longest} {
		for _, list := range [][][32]byte{nil, {}, devices(0), devices(255), devices(1, 2, 3, 4, 5, 6, 7, 8)} {
			for _, version := range []uint64{1, 2, 3, math.MaxUint64} {
				for _, more := range []entries{{}, some()} {
					more[fresh(account, version)] = value(list)
					lookupOf(more, account, version, list).expect(t, "a list", api.OK)
				}
			}
		}
		lookupOf(entries{}, account, 0, nil).expect(t, "no list", api.OK)
		lookupOf(entries{}, account, 0, [][32]byte{}).expect(t, "no list", api.OK)
		lookupOf(some(), account, 0, nil).expect(t, "no list", api.OK)
	}
	c := lookupOf(some(), longest, 0, nil)
	c.l.Account += "a"
	c.expect(t, "33 letters", api.ErrArg)
	for _, account := range []string{"a/b", "ä", "a\xff", "a\x00", "Alice"} {
		c.l.Account = account
		c.expect(t, account, api.ErrArg)
	}
}

// R4: no nodes and no devices may be nil or empty.
func TestEmptyListsOfALookup(t *testing.T) {
	c := lookupOf(entries{}, "nobody", 0, [][32]byte{})
	c.l.Fresh.Nodes, c.l.Stale.Nodes = []api.Node{}, []api.Node{}
	c.expect(t, "empty", api.OK)
	c.l.Devices, c.l.Fresh.Nodes, c.l.Stale.Nodes = nil, nil, nil
	c.expect(t, "nil", api.OK)
}

// An opening needn't be the least: any cut of the tree tells that holds the label's
// leaf, or doesn't hold the label.
func TestAnyCutOfTheTree(t *testing.T) {
	finest := fault[lookupCase]{when: ofTheShown, do: func(c *lookupCase) {
		c.l.Fresh.Nodes = leafNodes(c.tree.leaves(secret))
		if c.l.Version > 0 {
			c.l.Stale.Nodes = leafNodes(c.tree.leaves(secret))
		}
	}}
	lookupOf(twice("a"), "a", 2, devices(2, 3), finest).expect(t, "the finest cut", api.OK)
	lookupOf(some(), "nobody", 0, nil, finest).expect(t, "the finest cut", api.OK)
	lookupOf(twice("a"), "a", 1, devices(1), finest).expect(t, "an old version", api.ErrSig)
	lookupOf(twice("a"), "a", 0, nil, finest).expect(t, "a hidden list", api.ErrSig)
}

// What a server that lies may try with a tree that it has signed honestly.
func TestLies(t *testing.T) {
	lookupOf(twice("a"), "a", 2, devices(2, 3)).expect(t, "the truth", api.OK)
	lookupOf(twice("a"), "a", 1, devices(1)).expect(t, "the version ahead", api.ErrSig)
	lookupOf(twice("a"), "a", 0, nil).expect(t, "that there is none", api.ErrSig)
	lookupOf(twice("a"), "a", 3, devices(2, 3)).expect(t, "a version too many", api.ErrSig)
	lookupOf(twice("a"), "a", 2, devices(1)).expect(t, "the list ahead", api.ErrSig)
	lookupOf(twice("a"), "b", 2, devices(2, 3)).expect(t, "another's", api.ErrSig)

	c := lookupOf(twice("a"), "a", 2, devices(2, 3))
	for _, version := range []uint64{1, 3, math.MaxUint64} {
		c.l.Version = version
		c.expect(t, "another Version", api.ErrSig)
	}
	c.l.Version = 0
	c.expect(t, "Version 0 and all the rest", api.ErrArg)
	c.l.Devices = nil
	c.expect(t, "Version 0 and what is stale", api.ErrArg)
	c.l.Stale = api.Opening{}
	c.expect(t, "Version 0 by the proof of 2", api.ErrSig)
	c = lookupOf(twice("a"), "a", 2, devices(2, 3))
	c.l.Account = "b"
	c.expect(t, "another Account", api.ErrSig)
	c = lookupOf(twice("a"), "a", 2, devices(2, 3))
	c.l.Fresh, c.l.Stale = c.l.Stale, c.l.Fresh
	c.expect(t, "the openings in each other's place", api.ErrSig)
	c = lookupOf(twice("a"), "a", 2, devices(2, 3))
	c.l.Stale = api.Opening{}
	c.expect(t, "nothing stale shown", api.ErrSig)
	c = lookupOf(some(), "nobody", 0, nil)
	c.l.Version = 1
	c.expect(t, "a list that isn't there", api.ErrSig)
}

// The chapter's examples.
func TestALookupTurned(t *testing.T) {
	c := lookupOf(twice("a"), "a", 2, devices(2, 3))
	c.expect(t, "not turned", api.OK)
	for i := range 32 {
		c.l.Root.Sig[i] ^= 1
		c.expect(t, "one byte of Root.Sig", api.ErrSig)
		c.l.Root.Sig[i] ^= 1
		c.l.Devices[1][i] ^= 128
		c.expect(t, "a device", api.ErrSig)
		c.l.Devices[1][i] ^= 128
	}
	c.l.Version++
	c.expect(t, "Version 1 more", api.ErrSig)
}
