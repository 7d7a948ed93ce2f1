package verify_test

import (
	"math"
	"slices"
	"testing"

	"beacon/api"
	"beacon/grow"
	"beacon/keyring"
	"beacon/sha2"
	"beacon/tree"
	"beacon/verify"
	"beacon/wire"
)

// P17.3: Step. And P17.4: StepBytes says the same of the step's bytes.

type stepCase struct {
	keys   api.Keys
	tree   entries // ahead of the step
	before api.Root
	s      api.Step
}

func (c stepCase) ask(t *testing.T) api.Errno {
	t.Helper()
	e := verify.Step(c.keys, c.before, c.s)
	b, refused := wire.EncodeStep(c.s)
	if refused != api.OK {
		return e
	}
	got, f := verify.StepBytes(c.keys, c.before, b)
	want := c.s
	if e != api.OK {
		want = api.Step{}
	}
	if f != e || !alike(got, want) {
		t.Errorf("StepBytes: %v %v, want %v %v", got, f, want, e)
	}
	return e
}

func (c stepCase) expect(t *testing.T, what string, want api.Errno) {
	t.Helper()
	if e := c.ask(t); e != want {
		t.Errorf("%s: %v, want %v", what, e, want)
	}
}

// ahead is the root of a tree, of an epoch and a generation.
func ahead(hash [32]byte, epoch, gen uint64) api.Root {
	return keyring.SignRoot(secret, api.Root{Epoch: epoch, Kind: api.Append, Gen: gen, Prev: [32]byte{1}, Hash: hash})
}

// more are entries that others don't have.
func more() entries {
	return entries{fresh("a", 1): value(devices(1)), stale("other-1", 1): mark(), fresh("other-1", 2): value(nil)}
}

// appendOf adds entries to those of a tree.
func appendOf(tree, added entries, faults ...fault[stepCase]) stepCase {
	c := stepCase{keys: keyring.Public(secret, 4), tree: tree, before: ahead(tree.root(secret), 8, 4)}
	all := entries{}
	for _, some := range []entries{tree, added} {
		for n, v := range some {
			all[n] = v
		}
	}
	c.s.Added = added.leaves(secret)
	c.s.Nodes, _ = grow.Stays(tree.leaves(secret), c.s.Added)
	c.s.Root = api.Root{Epoch: 9, Kind: api.Append, Gen: 4, Prev: c.before.Hash, Hash: all.root(secret)}
	lay(&c, ofTheShown, faults)
	c.s.Root = keyring.SignRoot(secret, c.s.Root)
	lay(&c, ofTheSig, faults)
	return c
}

var next = [32]byte{4, 5, 6} // the secret of the generation to which it moves

// migrateOf makes the labels of a tree anew.
func migrateOf(tree entries, faults ...fault[stepCase]) stepCase {
	c := stepCase{keys: keyring.Public(next, 5), tree: tree, before: ahead(tree.root(secret), 8, 4)}
	for n, v := range tree {
		c.s.Links = append(c.s.Links, api.Link{Old: prove(secret, n).label, New: prove(next, n).label, Value: v})
	}
	slices.SortFunc(c.s.Links, func(a, b api.Link) int { return slices.Compare(a.Old[:], b.Old[:]) })
	lay(&c, ofTheTree, faults)
	c.s.Root = api.Root{Epoch: 9, Kind: api.Migrate, Gen: 5, Prev: c.before.Hash, Hash: tree.root(next), Link: linkOf(c.s.Links)}
	lay(&c, ofTheShown, faults)
	c.s.Root = keyring.SignRoot(next, c.s.Root)
	lay(&c, ofTheSig, faults)
	return c
}

func linkOf(links []api.Link) [32]byte {
	var b []byte
	for _, l := range links {
		b = slices.Concat(b, l.Old[:], l.New[:], l.Value[:])
	}
	return sha2.Sum256(b)
}

func stepKeys(c *stepCase) *api.Keys { return &c.keys }

func stepRoot(c *stepCase) *api.Root { return &c.s.Root }

// orderFaults are those that stand ahead of what each Kind asks.
func orderFaults() []fault[stepCase] {
	type c = stepCase
	return slices.Concat(
		[]fault[c]{
			{"the same epoch", api.ErrArg, ofTheShown, func(c *c) { c.s.Root.Epoch = c.before.Epoch }},
			{"an epoch left out", api.ErrArg, ofTheShown, func(c *c) { c.s.Root.Epoch = c.before.Epoch + 2 }},
			{"the epoch ahead", api.ErrArg, ofTheShown, func(c *c) { c.s.Root.Epoch = c.before.Epoch - 1 }},
			{"epoch 0", api.ErrArg, ofTheShown, func(c *c) { c.s.Root.Epoch = 0 }},
			{"another Prev", api.ErrArg, ofTheShown, func(c *c) { c.s.Root.Prev[31]++ }},
		},
		rootFaults(stepKeys, stepRoot),
		[]fault[c]{
			{"Kind 0", api.ErrForm, ofTheShown, func(c *c) { c.s.Root.Kind = api.Genesis }},
			{"Kind 3", api.ErrForm, ofTheShown, func(c *c) { c.s.Root.Kind = 3 }},
			{"the greatest Kind", api.ErrForm, ofTheShown, func(c *c) { c.s.Root.Kind = math.MaxUint64 }},
		},
	)
}

func otherBefore(c *stepCase) {
	c.before.Hash[0]++
	c.s.Root.Prev = c.before.Hash
}

func TestAppendsQuestionsInOrder(t *testing.T) {
	type c = stepCase
	faults := slices.Concat(orderFaults(), []fault[c]{
		{"a greater Gen ahead", api.ErrArg, ofTheShown, func(c *c) { c.before.Gen = c.s.Root.Gen + 1 }},
		{"a less Gen ahead", api.ErrArg, ofTheShown, func(c *c) { c.before.Gen = c.s.Root.Gen - 1 }},
		{"a Link", api.ErrArg, ofTheShown, func(c *c) { c.s.Root.Link[31] = 1 }},
		{"the Link of no links", api.ErrArg, ofTheShown, func(c *c) { c.s.Root.Link = linkOf(nil) }},
		{"links", api.ErrArg, ofTheShown, func(c *c) { c.s.Links = make([]api.Link, 1) }},
		{"nodes that don't rise", api.ErrArg, ofTheShown, func(c *c) { c.s.Nodes = append(c.s.Nodes, c.s.Nodes[0]) }},
		{"a node of no Len", api.ErrArg, ofTheShown, func(c *c) { c.s.Nodes[0].Len = 257 }},
		{"a node that holds what is added", api.ErrArg, ofTheShown, func(c *c) { c.s.Nodes = []api.Node{{}} }},
		{"a leaf added twice", api.ErrArg, ofTheShown, func(c *c) { c.s.Added = append(c.s.Added, c.s.Added[0]) }},
		{"another root ahead", api.ErrSig, ofTheShown, otherBefore},
		{"another root behind", api.ErrSig, ofTheShown, func(c *c) { c.s.Root.Hash[31]++ }},
		{"a node turned", api.ErrSig, ofTheShown, func(c *c) { c.s.Nodes[0].Hash[0]++ }},
		{"a node left out", api.ErrSig, ofTheShown, func(c *c) { c.s.Nodes = c.s.Nodes[1:] }},
		{"another value added", api.ErrSig, ofTheShown, func(c *c) { c.s.Added[1].Value[5]++ }},
		{"a leaf kept back", api.ErrSig, ofTheShown, func(c *c) { c.s.Added = c.s.Added[:2] }},
	})
	inOrder(t, faults, func(faults []fault[c]) api.Errno { return appendOf(some(), more(), faults...).ask(t) })
}

func TestMigratesQuestionsInOrder(t *testing.T) {
	type c = stepCase
	faults := slices.Concat(orderFaults(), []fault[c]{
		{"the same Gen ahead", api.ErrArg, ofTheShown, func(c *c) { c.before.Gen = c.s.Root.Gen }},
		{"a Gen left out", api.ErrArg, ofTheShown, func(c *c) { c.before.Gen = c.s.Root.Gen - 2 }},
		{"a greater Gen ahead", api.ErrArg, ofTheShown, func(c *c) { c.before.Gen = c.s.Root.Gen + 1 }},
		{"nodes", api.ErrArg, ofTheShown, func(c *c) { c.s.Nodes = leafNodes(c.tree.leaves(secret)) }},
		{"a leaf added", api.ErrArg, ofTheShown, func(c *c) { c.s.Added = make([]api.Leaf, 1) }},
		{"another Link", api.ErrArg, ofTheShown, func(c *c) { c.s.Root.Link[0]++ }},
		{"no Link", api.ErrArg, ofTheShown, func(c *c) { c.s.Root.Link = [32]byte{} }},
		{"a link turned", api.ErrArg, ofTheShown, func(c *c) { c.s.Links[2].Value[0]++ }},
		{"a link less than linked", api.ErrArg, ofTheShown, func(c *c) { c.s.Links = c.s.Links[1:] }},
		{"links in another order than linked", api.ErrArg, ofTheShown, func(c *c) { slices.Reverse(c.s.Links) }},
		{"two of one Old", api.ErrArg, ofTheTree, func(c *c) { c.s.Links[1].Old = c.s.Links[0].Old }},
		{"two of one New", api.ErrArg, ofTheTree, func(c *c) { c.s.Links[1].New = c.s.Links[0].New }},
		{"another root ahead", api.ErrSig, ofTheShown, otherBefore},
		{"another root behind", api.ErrSig, ofTheShown, func(c *c) { c.s.Root.Hash[31]++ }},
		{"another Value", api.ErrSig, ofTheTree, func(c *c) { c.s.Links[0].Value[31]++ }},
		{"another Old", api.ErrSig, ofTheTree, func(c *c) { c.s.Links[3].Old[31]++ }},
		{"another New", api.ErrSig, ofTheTree, func(c *c) { c.s.Links[3].New[31]++ }},
		{"a leaf lost", api.ErrSig, ofTheTree, func(c *c) { c.s.Links = c.s.Links[:5] }},
		{"a leaf more", api.ErrSig, ofTheTree, func(c *c) { c.s.Links = append(c.s.Links, api.Link{}) }},
	})
	inOrder(t, faults, func(faults []fault[c]) api.Errno { return migrateOf(some(), faults...).ask(t) })
}

// A step of one Kind, told as the other one.
func TestTheOtherKind(t *testing.T) {
	appendOf(some(), more(), fault[stepCase]{when: ofTheShown, do: func(c *stepCase) {
		c.s.Root.Kind = api.Migrate
		c.before.Gen--
	}}).expect(t, "what is added, as a Migrate", api.ErrArg)
	migrateOf(some(), fault[stepCase]{when: ofTheShown, do: func(c *stepCase) {
		c.s.Root.Kind, c.s.Root.Link = api.Append, [32]byte{}
		c.before.Gen++
	}}).expect(t, "links, as an Append", api.ErrArg)
	appendOf(some(), nil).expect(t, "nothing added", api.OK)
	appendOf(some(), nil, fault[stepCase]{when: ofTheShown, do: func(c *stepCase) {
		c.s.Root.Gen, c.keys.Gen = c.s.Root.Gen+1, c.keys.Gen+1
	}}).expect(t, "an Append to another generation", api.ErrArg)
}

func TestStepsOfAllSizes(t *testing.T) {
	for _, tree := range []entries{{}, {fresh("a", 9): {}}, some(), twice("b")} {
		for _, added := range []entries{{}, {fresh("a", 1): value(nil)}, more()} {
			c := appendOf(tree, added)
			c.expect(t, "an Append", api.OK)
			c.s.Links = []api.Link{}
			c.expect(t, "an Append, links empty", api.OK)
			slices.Reverse(c.s.Added)
			c.expect(t, "what is added in another order", api.OK)
			c.s.Nodes = leafNodes(tree.leaves(secret))
			c.expect(t, "all leaves as nodes", api.OK)
		}
		c := migrateOf(tree)
		c.expect(t, "a Migrate", api.OK)
		c.s.Nodes, c.s.Added = []api.Node{}, []api.Leaf{}
		c.expect(t, "a Migrate, nodes and added empty", api.OK)
	}
	c := migrateOf(entries{})
	c.s.Links = []api.Link{}
	c.expect(t, "a Migrate of nothing, links empty", api.OK)
}

// Link is H of the links as they stand; that they rise isn't asked beside that.
func TestLinksInAnotherOrder(t *testing.T) {
	turn := func(when moment) fault[stepCase] {
		return fault[stepCase]{when: when, do: func(c *stepCase) { slices.Reverse(c.s.Links) }}
	}
	migrateOf(some(), turn(ofTheShown)).expect(t, "and Link as it was", api.ErrArg)
	migrateOf(some(), turn(ofTheTree)).expect(t, "and Link of these", api.OK)
}

// numbers lays epochs and generations as they are asked for.
func numbers(epochAhead, epoch, genAhead, gen uint64) fault[stepCase] {
	return fault[stepCase]{when: ofTheShown, do: func(c *stepCase) {
		c.before.Epoch, c.s.Root.Epoch = epochAhead, epoch
		c.before.Gen, c.s.Root.Gen, c.keys.Gen = genAhead, gen, gen
	}}
}

func TestTheGreatestNumbers(t *testing.T) {
	const most = math.MaxUint64
	appendOf(some(), more(), numbers(0, 1, 0, 0)).expect(t, "the first epoch", api.OK)
	appendOf(some(), more(), numbers(most-1, most, most, most)).expect(t, "the last epoch", api.OK)
	appendOf(some(), more(), numbers(most, 0, 4, 4)).expect(t, "an epoch behind the last one", api.ErrArg)
	appendOf(some(), more(), numbers(most, most, 4, 4)).expect(t, "the last epoch again", api.ErrArg)
	migrateOf(some(), numbers(0, 1, 0, 1)).expect(t, "the first generations", api.OK)
	migrateOf(some(), numbers(most-1, most, most-1, most)).expect(t, "the last generations", api.OK)
	migrateOf(some(), numbers(most, 0, 4, 5)).expect(t, "an epoch behind the last one", api.ErrArg)
	migrateOf(some(), numbers(8, 9, most, 0)).expect(t, "a generation behind the last one", api.ErrArg)
	migrateOf(some(), numbers(8, 9, most, most)).expect(t, "the last generation again", api.ErrArg)
}

// Of the root before and of the keys nothing else is asked.
func TestWhatAStepPassesOver(t *testing.T) {
	for _, c := range []stepCase{appendOf(some(), more()), migrateOf(some())} {
		c.before.Kind, c.before.Prev, c.before.Link, c.before.Sig = 77, [32]byte{7}, [32]byte{7}, [64]byte{7}
		c.keys.Vrf = noKey()
		c.expect(t, "the rest", api.OK)
	}
}

// What auditors are to see: leaves that go, or change.
func TestTreesThatDoNotGrow(t *testing.T) {
	less, turned := some(), some()
	delete(less, fresh("other-2", 1))
	turned[fresh("other-2", 1)] = value(devices(9))
	for _, after := range []entries{less, turned} {
		lie := fault[stepCase]{when: ofTheShown, do: func(c *stepCase) { c.s.Root.Hash = after.root(secret) }}
		appendOf(some(), nil, lie).expect(t, "by the nodes ahead", api.ErrSig)
		c := appendOf(some(), nil, lie, fault[stepCase]{when: ofTheShown, do: func(c *stepCase) { c.s.Nodes = leafNodes(after.leaves(secret)) }})
		c.expect(t, "by the nodes behind", api.ErrSig)
		moved := fault[stepCase]{when: ofTheShown, do: func(c *stepCase) { c.s.Root.Hash = after.root(next) }}
		migrateOf(some(), moved).expect(t, "by a move", api.ErrSig)
	}
	root, _ := tree.RootOf(nil)
	gone := fault[stepCase]{when: ofTheShown, do: func(c *stepCase) { c.s.Root.Hash, c.s.Nodes = root, nil }}
	appendOf(some(), nil, gone).expect(t, "all gone", api.ErrSig)
}
