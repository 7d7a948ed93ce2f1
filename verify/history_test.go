package verify_test

import (
	"fmt"
	"math"
	"slices"
	"testing"

	"beacon/api"
	"beacon/keyring"
	"beacon/verify"
)

// P17.2: History.

type historyCase struct {
	keys api.Keys
	tree entries
	h    api.History
}

// historyOf is the history that tells of the account's lists as they are handed in.
func historyOf(tree entries, account string, lists [][][32]byte, faults ...fault[historyCase]) historyCase {
	c := historyCase{keys: keyring.Public(secret, 4), tree: tree}
	lay(&c, ofTheTree, faults)
	c.h = api.History{
		Root:    api.Root{Epoch: 9, Kind: api.Append, Gen: 4, Hash: c.tree.root(secret)},
		Account: account,
	}
	for i, list := range lists {
		c.h.Versions = append(c.h.Versions, list)
		c.h.Fresh = append(c.h.Fresh, c.tree.opening(secret, fresh(account, uint64(i)+1)))
	}
	c.h.Next = c.tree.opening(secret, fresh(account, uint64(len(lists))+1))
	lay(&c, ofTheShown, faults)
	c.h.Root = keyring.SignRoot(secret, c.h.Root)
	lay(&c, ofTheSig, faults)
	return c
}

func (c historyCase) expect(t *testing.T, what string, want api.Errno) {
	t.Helper()
	if e := verify.History(c.keys, c.h); e != want {
		t.Errorf("%s: %v, want %v", what, e, want)
	}
}

func lists() [][][32]byte { return [][][32]byte{devices(1), devices(2, 3)} }

func historyKeys(c *historyCase) *api.Keys { return &c.keys }

func historyRoot(c *historyCase) *api.Root { return &c.h.Root }

func historyNext(c *historyCase) *api.Opening { return &c.h.Next }

func historyFresh(i int) func(c *historyCase) *api.Opening {
	return func(c *historyCase) *api.Opening { return &c.h.Fresh[i] }
}

// versionFaults are those of one version's list.
func versionFaults(i int) []fault[historyCase] {
	type c = historyCase
	n := fresh("a", uint64(i)+1)
	return slices.Concat(
		openingFaults(fmt.Sprint("version ", n.version), historyFresh(i), prove(secret, stale("a", n.version)).proof),
		[]fault[c]{
			{fmt.Sprint(n.version, " isn't there"), api.ErrSig, ofTheTree, func(c *c) { delete(c.tree, n) }},
			{fmt.Sprint(n.version, " is something else"), api.ErrSig, ofTheTree, func(c *c) { c.tree[n] = mark() }},
			{fmt.Sprint(n.version, " has other devices"), api.ErrSig, ofTheShown, func(c *c) { c.h.Versions[i] = devices(77) }},
			{fmt.Sprint(n.version, " has no devices"), api.ErrSig, ofTheShown, func(c *c) { c.h.Versions[i] = nil }},
		})
}

func TestHistorysQuestionsInOrder(t *testing.T) {
	type c = historyCase
	faults := slices.Concat(
		[]fault[c]{
			{"no account", api.ErrArg, ofTheShown, func(c *c) { c.h.Account = "A" }},
			{"the first devices don't rise", api.ErrArg, ofTheShown, func(c *c) { c.h.Versions[0] = devices(3, 2) }},
			{"9 last devices", api.ErrArg, ofTheShown, func(c *c) { c.h.Versions[1] = devices(1, 2, 3, 4, 5, 6, 7, 8, 9) }},
			{"an opening less", api.ErrArg, ofTheShown, func(c *c) { c.h.Fresh = c.h.Fresh[:1] }},
			{"an opening more", api.ErrArg, ofTheShown, func(c *c) { c.h.Fresh = append(c.h.Fresh, c.h.Next) }},
		},
		rootFaults(historyKeys, historyRoot),
		vrfFaults(historyKeys),
		versionFaults(0),
		versionFaults(1),
		openingFaults("next", historyNext, prove(secret, fresh("a", 4)).proof),
		[]fault[c]{
			{"there is one more", api.ErrSig, ofTheTree, func(c *c) { c.tree[fresh("a", 3)] = value(nil) }},
			{"there is something more", api.ErrSig, ofTheTree, func(c *c) { c.tree[fresh("a", 3)] = [32]byte{} }},
		},
	)
	inOrder(t, faults, func(faults []fault[c]) api.Errno {
		c := historyOf(twice("a"), "a", lists(), faults...)
		return verify.History(c.keys, c.h)
	})
}

func TestHistoriesOfAllSizes(t *testing.T) {
	for n := range 12 {
		all, told := some(), [][][32]byte{}
		for i := range n {
			list := devices([]byte{1, 2, 3, 4, 5, 6, 7, 8}[:i%9]...)
			told = append(told, list)
			all[fresh("a", uint64(i)+1)] = value(list)
		}
		historyOf(all, "a", told).expect(t, fmt.Sprint(n, " versions"), api.OK)
		if n > 0 {
			historyOf(all, "a", told[:n-1]).expect(t, "one kept back", api.ErrSig)
			historyOf(all, "a", told[1:]).expect(t, "the first one left out", api.ErrSig)
			historyOf(all, "a", nil).expect(t, "all kept back", api.ErrSig)
		}
		historyOf(all, "a", append(slices.Clone(told), nil)).expect(t, "one made up", api.ErrSig)
		historyOf(all, "b", told).expect(t, "another's", map[bool]api.Errno{true: api.OK, false: api.ErrSig}[n == 0])
	}
}

// R4: none may be nil or empty.
func TestEmptyHistories(t *testing.T) {
	for _, all := range []entries{{}, some()} {
		c := historyOf(all, "nobody", nil)
		for _, versions := range [][][][32]byte{nil, {}} {
			for _, openings := range [][]api.Opening{nil, {}} {
				c.h.Versions, c.h.Fresh = versions, openings
				c.expect(t, "no versions", api.OK)
			}
		}
		c.h.Fresh = make([]api.Opening, 1)
		c.expect(t, "an opening of none", api.ErrArg)
		c.h.Versions, c.h.Fresh = make([][][32]byte, 1), nil
		c.expect(t, "a version without an opening", api.ErrArg)
	}
}

// Of what is stale a history tells nothing: the version behind the last one does.
func TestHistoryAsksNothingStale(t *testing.T) {
	all := twice("a")
	all[stale("a", 2)] = mark()
	historyOf(all, "a", lists()).expect(t, "the last one is stale", api.OK)
	delete(all, stale("a", 1))
	delete(all, stale("a", 2))
	historyOf(all, "a", lists()).expect(t, "none is stale", api.OK)
}

func TestHistoryAsksOfTheRootTheGenerationAlone(t *testing.T) {
	for _, r := range []api.Root{{}, {Epoch: math.MaxUint64, Kind: math.MaxUint64, Gen: math.MaxUint64, Prev: [32]byte{1}, Link: [32]byte{2}}} {
		c := historyOf(twice("a"), "a", lists(), fault[historyCase]{when: ofTheShown, do: func(c *historyCase) {
			r.Hash = c.h.Root.Hash
			c.h.Root, c.keys.Gen = r, r.Gen
		}})
		c.expect(t, "any root", api.OK)
		c.keys.Gen++
		c.expect(t, "keys of the next generation", api.ErrArg)
	}
}

func TestHistoryUnderOtherKeys(t *testing.T) {
	other := keyring.Public([32]byte{9}, 4)
	c := historyOf(twice("a"), "a", lists())
	own := c.keys
	c.keys.Sign = other.Sign
	c.expect(t, "another's signing key", api.ErrSig)
	c.keys = own
	c.keys.Vrf = other.Vrf
	c.expect(t, "another's VRF key", api.ErrSig)
}

func TestOpeningsInEachOthersPlace(t *testing.T) {
	c := historyOf(twice("a"), "a", lists())
	c.h.Fresh[0], c.h.Fresh[1] = c.h.Fresh[1], c.h.Fresh[0]
	c.expect(t, "two openings", api.ErrSig)
	c = historyOf(twice("a"), "a", lists())
	c.h.Versions[0], c.h.Versions[1] = c.h.Versions[1], c.h.Versions[0]
	c.expect(t, "two lists", api.ErrSig)
	c = historyOf(twice("a"), "a", lists())
	c.h.Next, c.h.Fresh[1] = c.h.Fresh[1], c.h.Next
	c.expect(t, "the last one and the next one", api.ErrSig)
}
