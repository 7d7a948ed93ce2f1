package verify_test

import (
	"fmt"
	"math/rand"
	"slices"
	"testing"

	"beacon/api"
	"beacon/keyring"
	"beacon/label"
	"beacon/point"
	"beacon/tree"
)

// What is shown is made here by the layers below, by a server that has the secrets
// and may lie wherever a fault says so. The chapter's order of questions is the
// order of a table of faults: of several, the first one's error is the answer.

type moment int

const (
	ofTheTree  moment = iota // ahead of the openings and of the root's Hash
	ofTheShown               // behind them, ahead of the signature
	ofTheSig                 // behind it
)

// fault is one thing that is wrong, and what is answered to it.
type fault[C any] struct {
	text string
	e    api.Errno
	when moment
	do   func(c *C)
}

// lay does the faults of one moment, the last one first: so an earlier one stands,
// whatever a later one has done.
func lay[C any](c *C, when moment, faults []fault[C]) {
	for _, f := range slices.Backward(faults) {
		if f.when == when {
			f.do(c)
		}
	}
}

// inOrder asks about no fault, each one, each two, and some more at once.
func inOrder[C any](t *testing.T, faults []fault[C], ask func(faults []fault[C]) api.Errno) {
	t.Helper()
	expect := func(some ...fault[C]) {
		t.Helper()
		want, texts := api.OK, []string{}
		for _, f := range some {
			texts = append(texts, f.text)
		}
		if len(some) > 0 {
			want = some[0].e
		}
		if e := ask(some); e != want {
			t.Errorf("%q: %v, want %v", texts, e, want)
		}
	}
	expect()
	for i, f := range faults {
		expect(f)
		for _, g := range faults[i+1:] {
			expect(f, g)
		}
	}
	r := rand.New(rand.NewSource(17))
	for range 100 {
		var some []fault[C]
		for _, f := range faults {
			if r.Intn(4) == 0 {
				some = append(some, f)
			}
		}
		expect(some...)
	}
}

// What a lying server has at hand.

// name is what a label is made of.
type name struct {
	account string
	version uint64
	stale   bool
}

func fresh(account string, version uint64) name { return name{account, version, false} }

func stale(account string, version uint64) name { return name{account, version, true} }

type proved struct {
	label [32]byte
	proof [80]byte
}

// known spares the tests from proving one thing many times.
var known = map[[32]byte]map[name]proved{}

func prove(secret [32]byte, n name) proved {
	if known[secret] == nil {
		known[secret] = map[name]proved{}
	}
	p, ok := known[secret][n]
	if !ok {
		l, proof, e := label.Make(keyring.VrfSeed(secret), n.account, n.version, n.stale)
		if e != api.OK {
			panic(fmt.Sprint("no label of ", n, ": ", e))
		}
		p = proved{l, proof}
		known[secret][n] = p
	}
	return p
}

func devices(list ...byte) (out [][32]byte) {
	for _, d := range list {
		out = append(out, [32]byte{31: d})
	}
	return out
}

func value(devices [][32]byte) [32]byte {
	v, e := label.Value(devices)
	if e != api.OK {
		panic("no value")
	}
	return v
}

func mark() [32]byte { return label.Mark() }

// alike: a list that is nil is as good as one that is empty.
func alike(a, b any) bool { return fmt.Sprint(a) == fmt.Sprint(b) }

// entries are what a tree holds.
type entries map[name][32]byte

// some are entries of other accounts, so that a tree has some depth.
func some() entries {
	all := entries{}
	for i := range byte(6) {
		all[fresh(fmt.Sprint("other-", i), 1)] = value(devices(i))
	}
	return all
}

func (all entries) leaves(secret [32]byte) (leaves []api.Leaf) {
	for n, v := range all {
		leaves = append(leaves, api.Leaf{Label: prove(secret, n).label, Value: v})
	}
	slices.SortFunc(leaves, func(a, b api.Leaf) int { return slices.Compare(a.Label[:], b.Label[:]) })
	return leaves
}

func (all entries) root(secret [32]byte) [32]byte {
	root, e := tree.RootOf(all.leaves(secret))
	if e != api.OK {
		panic("no root")
	}
	return root
}

func (all entries) opening(secret [32]byte, n name) api.Opening {
	p := prove(secret, n)
	nodes, e := tree.Open(all.leaves(secret), p.label)
	if e != api.OK {
		panic("no opening")
	}
	return api.Opening{Proof: p.proof, Nodes: nodes}
}

// leafNodes are the finest cut of a tree.
func leafNodes(leaves []api.Leaf) (nodes []api.Node) {
	for _, l := range leaves {
		nodes = append(nodes, tree.LeafNode(l))
	}
	return nodes
}

// wholly is the coarsest cut of what the nodes make up: one node.
func wholly(nodes []api.Node) []api.Node {
	n, e := tree.Over(nodes)
	if e != api.OK {
		panic("no node over them")
	}
	return []api.Node{n}
}

// Keys that are none.

var smallKey = [32]byte{1} // the point Zero

// noKey is no point's bytes.
func noKey() [32]byte {
	for i := range byte(255) {
		if b := [32]byte{i}; point.Check(b) != api.OK {
			return b
		}
	}
	panic("all are points")
}

// Faults that more than one kind of thing may have, each at its place.

// rootFaults are those at which CheckRoot is refused.
func rootFaults[C any](keys func(c *C) *api.Keys, root func(c *C) *api.Root) []fault[C] {
	return []fault[C]{
		{"keys of the next generation", api.ErrArg, ofTheSig, func(c *C) { keys(c).Gen++ }},
		{"the signing key is no point", api.ErrForm, ofTheShown, func(c *C) { keys(c).Sign = noKey() }},
		{"the signing key is small", api.ErrForm, ofTheShown, func(c *C) { keys(c).Sign = smallKey }},
		{"a signature of another form", api.ErrForm, ofTheSig, func(c *C) { root(c).Sig[63] = 255 }},
		{"a signature turned", api.ErrSig, ofTheSig, func(c *C) { root(c).Sig[0]++ }},
		{"the root turned behind the signature", api.ErrSig, ofTheSig, func(c *C) { root(c).Link[3]++ }},
	}
}

// vrfFaults are those of the key under which labels are made.
func vrfFaults[C any](keys func(c *C) *api.Keys) []fault[C] {
	return []fault[C]{
		{"the VRF key is no point", api.ErrForm, ofTheShown, func(c *C) { keys(c).Vrf = noKey() }},
		{"the VRF key is small", api.ErrForm, ofTheShown, func(c *C) { keys(c).Vrf = smallKey }},
	}
}

// openingFaults are those of one opening, by its proof and its nodes; wrong is a
// proof of something else.
func openingFaults[C any](which string, opening func(c *C) *api.Opening, wrong [80]byte) []fault[C] {
	nodes := func(text string, e api.Errno, do func(o *api.Opening)) fault[C] {
		return fault[C]{which + text, e, ofTheShown, func(c *C) { do(opening(c)) }}
	}
	return []fault[C]{
		nodes(": G is no point", api.ErrForm, func(o *api.Opening) { key := noKey(); copy(o.Proof[:], key[:]) }),
		nodes(": t has another form", api.ErrForm, func(o *api.Opening) { o.Proof[79] = 255 }),
		nodes(": the proof of another label", api.ErrSig, func(o *api.Opening) { o.Proof = wrong }),
		nodes(": a proof turned", api.ErrSig, func(o *api.Opening) { o.Proof[40]++ }),
		nodes(": nodes that don't rise", api.ErrArg, func(o *api.Opening) { o.Nodes = append(o.Nodes, api.Node{Len: 256}, api.Node{Len: 256}) }),
		nodes(": a node of no Len", api.ErrArg, func(o *api.Opening) { o.Nodes = append([]api.Node{{Len: -1}}, o.Nodes...) }),
		nodes(": a node with a bit behind its Len", api.ErrArg, func(o *api.Opening) {
			o.Nodes = append(o.Nodes, api.Node{Len: 255, Prefix: [32]byte(slices.Repeat([]byte{255}, 32))})
		}),
		nodes(": no nodes", api.ErrSig, func(o *api.Opening) { o.Nodes = nil }),
		nodes(": a node turned", api.ErrSig, func(o *api.Opening) {
			if len(o.Nodes) > 0 {
				o.Nodes[0].Hash[31]++
			}
		}),
		nodes(": one node for all", api.ErrForm, func(o *api.Opening) {
			if len(o.Nodes) > 0 {
				o.Nodes = wholly(o.Nodes)
			}
		}),
	}
}
