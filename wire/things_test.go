package wire_test

import (
	"bytes"
	"encoding/binary"
	"fmt"
	"math"
	"math/rand"
	"reflect"
	"slices"
	"strings"
	"testing"

	"beacon/api"
	"beacon/wire"
)

// The things' bytes by the chapter's words.

func nodesBytes(list []api.Node) []byte {
	var b []byte
	for _, n := range list {
		b = binary.BigEndian.AppendUint16(b, uint16(n.Len))
		b = append(append(b, n.Prefix[:]...), n.Hash[:]...)
	}
	return b
}

func devicesBytes(list [][32]byte) []byte {
	var b []byte
	for _, d := range list {
		b = append(b, d[:]...)
	}
	return b
}

func leavesBytes(list []api.Leaf) []byte {
	var b []byte
	for _, l := range list {
		b = append(append(b, l.Label[:]...), l.Value[:]...)
	}
	return b
}

func linksBytes(list []api.Link) []byte {
	var b []byte
	for _, l := range list {
		b = append(append(append(b, l.Old[:]...), l.New[:]...), l.Value[:]...)
	}
	return b
}

func unsignedMembers(r api.Root) [][]byte {
	return [][]byte{[]byte("root"), numBytes(r.Epoch), numBytes(r.Kind), numBytes(r.Gen), r.Prev[:], r.Hash[:], r.Link[:]}
}

func rootMembers(r api.Root) [][]byte {
	return [][]byte{[]byte("signed"), written(unsignedMembers(r)...), r.Sig[:]}
}

func lookupMembers(l api.Lookup) [][]byte {
	return [][]byte{
		[]byte("lookup"), written(rootMembers(l.Root)...), []byte(l.Account), numBytes(l.Version), devicesBytes(l.Devices),
		l.Fresh.Proof[:], nodesBytes(l.Fresh.Nodes), l.Stale.Proof[:], nodesBytes(l.Stale.Nodes),
	}
}

func stepMembers(s api.Step) [][]byte {
	return [][]byte{
		[]byte("step"), written(rootMembers(s.Root)...), nodesBytes(s.Nodes), leavesBytes(s.Added), linksBytes(s.Links),
	}
}

// Which bytes a decoder takes, by the chapter's words.

type taken func(b []byte) bool

func word(w string) taken  { return func(b []byte) bool { return string(b) == w } }
func exactly(n int) taken  { return func(b []byte) bool { return len(b) == n } }
func manyOf(n int) taken   { return func(b []byte) bool { return len(b)%n == 0 } }
func anything([]byte) bool { return true }
func nodes(b []byte) bool {
	if len(b)%66 != 0 {
		return false
	}
	for n := range slices.Chunk(b, 66) {
		if binary.BigEndian.Uint16(n) > 256 {
			return false
		}
	}
	return true
}

// members: a list of as many members, each as asked.
func members(each ...taken) taken {
	return func(b []byte) bool {
		list, ok := read(b)
		if !ok || len(b) > mostBytes || len(list) != len(each) {
			return false
		}
		for i, takes := range each {
			if !takes(list[i]) {
				return false
			}
		}
		return true
	}
}

func rootTaken() taken {
	n, h := exactly(8), exactly(32)
	return members(word("signed"), members(word("root"), n, n, n, h, h, h), exactly(64))
}

func lookupTaken() taken {
	return members(word("lookup"), rootTaken(), anything, exactly(8), manyOf(32), exactly(80), nodes, exactly(80), nodes)
}

func stepTaken() taken { return members(word("step"), rootTaken(), nodes, manyOf(64), manyOf(96)) }

// A kind is a thing's decoder, with what the chapter asks of it.
type kind struct {
	name   string
	takes  taken
	decode func(b []byte) (thing any, again []byte, e api.Errno) // again: the thing's bytes, by the chapter's words
	encode func(thing any) ([]byte, api.Errno)
	zero   any
}

func kinds() []kind {
	return []kind{
		{"DecodeRoot", rootTaken(), func(b []byte) (any, []byte, api.Errno) {
			r, e := wire.DecodeRoot(b)
			return r, written(rootMembers(r)...), e
		}, func(thing any) ([]byte, api.Errno) { return wire.EncodeRoot(thing.(api.Root)), api.OK }, api.Root{}},
		{"DecodeLookup", lookupTaken(), func(b []byte) (any, []byte, api.Errno) {
			l, e := wire.DecodeLookup(b)
			return l, written(lookupMembers(l)...), e
		}, func(thing any) ([]byte, api.Errno) { return wire.EncodeLookup(thing.(api.Lookup)) }, api.Lookup{}},
		{"DecodeStep", stepTaken(), func(b []byte) (any, []byte, api.Errno) {
			s, e := wire.DecodeStep(b)
			return s, written(stepMembers(s)...), e
		}, func(thing any) ([]byte, api.Errno) { return wire.EncodeStep(thing.(api.Step)) }, api.Step{}},
	}
}

// holdThing: the decoder takes b just if it is a thing's bytes, and answers that
// thing; nothing beside an error.
func holdThing(t *testing.T, what string, k kind, b []byte) bool {
	t.Helper()
	thing, again, e := k.decode(b)
	if !k.takes(b) {
		if !reflect.DeepEqual(thing, k.zero) || e != api.ErrForm {
			t.Errorf("%s: %s(%x): %v, %v; want ErrForm", what, k.name, short(b), thing, e)
		}
		return false
	}
	if e != api.OK || !bytes.Equal(again, b) {
		t.Errorf("%s: %s(%x): %v; its bytes are %x", what, k.name, short(b), e, short(again))
	}
	if got, e := k.encode(thing); e != api.OK || !bytes.Equal(got, b) {
		t.Errorf("%s: what %s(%x) answers is encoded as %x, %v", what, k.name, short(b), short(got), e)
	}
	return true
}

// refuseThing: these bytes are nothing that the decoder knows.
func refuseThing(t *testing.T, what string, k kind, b []byte) {
	t.Helper()
	if holdThing(t, what, k, b) {
		t.Errorf("%s: %s(%x) is taken", what, k.name, short(b))
	}
}

// Things drawn.

func drawnHash(r *rand.Rand) [32]byte { return [32]byte(drawn(r, 32)) }

func drawnNumber(r *rand.Rand) uint64 { return r.Uint64() >> r.Intn(64) }

func drawnRoot(r *rand.Rand) api.Root {
	return api.Root{
		Epoch: drawnNumber(r), Kind: drawnNumber(r), Gen: drawnNumber(r),
		Prev: drawnHash(r), Hash: drawnHash(r), Link: drawnHash(r), Sig: [64]byte(drawn(r, 64)),
	}
}

func drawnNodes(r *rand.Rand, n int) []api.Node {
	var list []api.Node
	for range n {
		lens := []int{0, 1, 2, 255, 256, r.Intn(257)}
		list = append(list, api.Node{Len: lens[r.Intn(len(lens))], Prefix: drawnHash(r), Hash: drawnHash(r)})
	}
	return list
}

func drawnLookup(r *rand.Rand, most int) api.Lookup {
	l := api.Lookup{Root: drawnRoot(r), Account: string(drawn(r, r.Intn(most+1))), Version: drawnNumber(r)}
	for range r.Intn(most + 1) {
		l.Devices = append(l.Devices, drawnHash(r))
	}
	l.Fresh = api.Opening{Proof: [80]byte(drawn(r, 80)), Nodes: drawnNodes(r, r.Intn(most+1))}
	l.Stale = api.Opening{Proof: [80]byte(drawn(r, 80)), Nodes: drawnNodes(r, r.Intn(most+1))}
	return l
}

func drawnStep(r *rand.Rand, most int) api.Step {
	s := api.Step{Root: drawnRoot(r), Nodes: drawnNodes(r, r.Intn(most+1))}
	for range r.Intn(most + 1) {
		s.Added = append(s.Added, api.Leaf{Label: drawnHash(r), Value: drawnHash(r)})
	}
	for range r.Intn(most + 1) {
		s.Links = append(s.Links, api.Link{Old: drawnHash(r), New: drawnHash(r), Value: drawnHash(r)})
	}
	return s
}

func roots(r *rand.Rand) []api.Root {
	out := []api.Root{{}, {Epoch: 1}, {Kind: api.Append}, {Kind: api.Migrate}, {Kind: 3}, {Gen: 258}}
	out = append(out, api.Root{Epoch: math.MaxUint64, Kind: math.MaxUint64, Gen: math.MaxUint64})
	for range 200 {
		out = append(out, drawnRoot(r))
	}
	return out
}

func lookups(r *rand.Rand) []api.Lookup {
	out := []api.Lookup{
		{}, {Account: "a"}, {Account: "Not one, \xff\x00é"}, {Account: strings.Repeat("x", 5000)}, {Version: 1 << 63},
		{Devices: [][32]byte{{2}, {1}, {1}}}, {Devices: make([][32]byte, 100)}, {Devices: [][32]byte{}},
		{Fresh: api.Opening{Nodes: []api.Node{{Len: 3}}}}, {Stale: api.Opening{Nodes: []api.Node{{Len: 256}, {}}}},
		{Fresh: api.Opening{Nodes: []api.Node{}}, Stale: api.Opening{Nodes: []api.Node{}}},
	}
	for _, n := range []int{1, 2, 3, 10, 300} {
		for range 20 {
			out = append(out, drawnLookup(r, n))
		}
	}
	return out
}

func steps(r *rand.Rand) []api.Step {
	out := []api.Step{
		{}, {Nodes: []api.Node{{Len: 256}}}, {Added: []api.Leaf{{Label: [32]byte{1}}}}, {Links: []api.Link{{New: [32]byte{2}}}},
		{Nodes: []api.Node{}, Added: []api.Leaf{}, Links: []api.Link{}},
		{Added: make([]api.Leaf, 3), Links: make([]api.Link, 2)}, // as many bytes either way
	}
	for _, n := range []int{1, 2, 3, 10, 300} {
		for range 20 {
			out = append(out, drawnStep(r, n))
		}
	}
	return out
}

func expectBytes(t *testing.T, what string, got []byte, e api.Errno, want []byte) {
	t.Helper()
	if !bytes.Equal(got, want) || e != api.OK {
		t.Fatalf("%s: %x, %v; want %x", what, short(got), e, short(want))
	}
}

func TestRootsThereAndBack(t *testing.T) {
	for _, r := range roots(rand.New(rand.NewSource(21))) {
		expectBytes(t, "RootBytes", wire.RootBytes(r), api.OK, written(unsignedMembers(r)...))
		b := written(rootMembers(r)...)
		expectBytes(t, "EncodeRoot", wire.EncodeRoot(r), api.OK, b)
		if back, e := wire.DecodeRoot(b); back != r || e != api.OK {
			t.Errorf("DecodeRoot(%x): %v, %v", b, back, e)
		}
	}
}

// sameNodes: none may be nil or empty.
func sameNodes(a, b api.Opening) bool { return a.Proof == b.Proof && slices.Equal(a.Nodes, b.Nodes) }

func sameLookup(a, b api.Lookup) bool {
	return a.Root == b.Root && a.Account == b.Account && a.Version == b.Version && slices.Equal(a.Devices, b.Devices) &&
		sameNodes(a.Fresh, b.Fresh) && sameNodes(a.Stale, b.Stale)
}

func sameStep(a, b api.Step) bool {
	return a.Root == b.Root && slices.Equal(a.Nodes, b.Nodes) && slices.Equal(a.Added, b.Added) && slices.Equal(a.Links, b.Links)
}

func expectLookup(t *testing.T, what string, l api.Lookup) {
	t.Helper()
	want := written(lookupMembers(l)...)
	got, e := wire.EncodeLookup(l)
	expectBytes(t, what+": EncodeLookup", got, e, want)
	if back, e := wire.DecodeLookup(want); !sameLookup(back, l) || e != api.OK {
		t.Fatalf("%s: DecodeLookup(%x): %v", what, short(want), e)
	}
}

func expectStep(t *testing.T, what string, s api.Step) {
	t.Helper()
	want := written(stepMembers(s)...)
	got, e := wire.EncodeStep(s)
	expectBytes(t, what+": EncodeStep", got, e, want)
	if back, e := wire.DecodeStep(want); !sameStep(back, s) || e != api.OK {
		t.Fatalf("%s: DecodeStep(%x): %v", what, short(want), e)
	}
}

func refuseLookup(t *testing.T, what string, l api.Lookup, want api.Errno) {
	t.Helper()
	if b, e := wire.EncodeLookup(l); len(b) != 0 || e != want {
		t.Errorf("%s: EncodeLookup: %d bytes, %v; want %v", what, len(b), e, want)
	}
}

func refuseStep(t *testing.T, what string, s api.Step, want api.Errno) {
	t.Helper()
	if b, e := wire.EncodeStep(s); len(b) != 0 || e != want {
		t.Errorf("%s: EncodeStep: %d bytes, %v; want %v", what, len(b), e, want)
	}
}

func TestLookupsThereAndBack(t *testing.T) {
	for i, l := range lookups(rand.New(rand.NewSource(22))) {
		expectLookup(t, fmt.Sprint("lookup ", i), l)
	}
}

func TestStepsThereAndBack(t *testing.T) {
	for i, s := range steps(rand.New(rand.NewSource(23))) {
		expectStep(t, fmt.Sprint("step ", i), s)
	}
}

func TestEachLenOfANode(t *testing.T) {
	r := rand.New(rand.NewSource(24))
	lens := []int{
		-1, -2, -255, -256, -257, -65536, -65280, -1 << 31, -1 << 32, -1<<32 + 1, math.MinInt, math.MinInt + 1,
		257, 258, 511, 512, 65535, 65536, 65537, 65792, 1 << 31, 1 << 32, 1<<32 + 1, math.MaxInt, math.MaxInt - 255,
	}
	for n := range 257 {
		lens = append(lens, n)
	}
	for _, n := range lens {
		for size := 1; size <= 3; size++ {
			for at := range size {
				list := drawnNodes(r, size)
				list[at].Len = n
				holdLen(t, list, n >= 0 && n <= 256)
			}
		}
	}
}

// holdLen: in each place where nodes stand, whether their Len are taken.
func holdLen(t *testing.T, list []api.Node, want bool) {
	t.Helper()
	l, m, s := api.Lookup{}, api.Lookup{}, api.Step{Nodes: list}
	l.Fresh.Nodes, m.Stale.Nodes = list, list
	if want {
		expectLookup(t, "fresh nodes", l)
		expectLookup(t, "stale nodes", m)
		expectStep(t, "nodes", s)
		return
	}
	refuseLookup(t, "fresh nodes", l, api.ErrArg)
	refuseLookup(t, "stale nodes", m, api.ErrArg)
	refuseStep(t, "nodes", s, api.ErrArg)
}

// rest is how many bytes of the lookup or step without text and lists are left.
func rest(members [][]byte) int { return mostBytes - len(written(members...)) }

func TestAsManyBytesOfALookupAsMayBe(t *testing.T) {
	r := rand.New(rand.NewSource(25))
	for range 4 {
		l := drawnLookup(r, 40)
		l.Account = ""
		room := rest(lookupMembers(l))
		l.Account = strings.Repeat("a", room)
		expectLookup(t, "as many bytes as may be", l)
		l.Account += "a"
		refuseLookup(t, "one more", l, api.ErrLarge)
		for _, k := range kinds() {
			refuseThing(t, "a lookup of too many bytes", k, written(lookupMembers(l)...))
		}
	}
	half := drawnNodes(r, mostBytes/66/2+10)
	refuseLookup(t, "nodes too many together",
		api.Lookup{Fresh: api.Opening{Nodes: half}, Stale: api.Opening{Nodes: half}}, api.ErrLarge)
	refuseLookup(t, "too many devices", api.Lookup{Devices: make([][32]byte, mostBytes/32)}, api.ErrLarge)
	expectLookup(t, "many devices", api.Lookup{Devices: make([][32]byte, mostBytes/32-20)})
	expectLookup(t, "many fresh nodes", api.Lookup{Fresh: api.Opening{Nodes: half}})
	expectLookup(t, "many stale nodes", api.Lookup{Stale: api.Opening{Nodes: half}})
}

func TestAsManyBytesOfAStepAsMayBe(t *testing.T) {
	empty := rest(stepMembers(api.Step{}))
	// 66 bytes a node and 64 a leaf: as many nodes as the remainder of 64 asks.
	count := empty % 64 / 2
	s := api.Step{Nodes: drawnNodes(rand.New(rand.NewSource(26)), count), Added: make([]api.Leaf, (empty-66*count)/64)}
	if n := len(written(stepMembers(s)...)); n != mostBytes {
		t.Fatalf("%d bytes", n)
	}
	expectStep(t, "as many bytes as may be", s)
	more := s
	more.Nodes, more.Added = append(slices.Clone(s.Nodes), api.Node{}), s.Added[1:]
	refuseStep(t, "two bytes more", more, api.ErrLarge)
	for _, k := range kinds() {
		refuseThing(t, "a step of too many bytes", k, written(stepMembers(more)...))
	}
	linked := s
	linked.Added, linked.Links = s.Added[3*1000:], make([]api.Link, 2*1000)
	expectStep(t, "as many bytes as may be, with links", linked)
	refuseStep(t, "too many nodes", api.Step{Nodes: make([]api.Node, mostBytes/66)}, api.ErrLarge)
	refuseStep(t, "too many leaves", api.Step{Added: make([]api.Leaf, mostBytes/64)}, api.ErrLarge)
	refuseStep(t, "too many links", api.Step{Links: make([]api.Link, mostBytes/96)}, api.ErrLarge)
	refuseStep(t, "far too many", api.Step{Links: make([]api.Link, 1<<20)}, api.ErrLarge)
}

func TestLenIsAskedAheadOfSize(t *testing.T) {
	many := make([]api.Node, mostBytes/66+1)
	bad := slices.Clone(many)
	bad[len(bad)-1].Len = 257
	long := strings.Repeat("a", mostBytes+1)
	refuseStep(t, "too many, the last with a wrong Len", api.Step{Nodes: bad}, api.ErrArg)
	refuseStep(t, "leaves too many", api.Step{Nodes: bad[len(bad)-1:], Added: make([]api.Leaf, 1<<15)}, api.ErrArg)
	refuseLookup(t, "fresh nodes", api.Lookup{Account: long, Fresh: api.Opening{Nodes: bad}}, api.ErrArg)
	refuseLookup(t, "stale nodes", api.Lookup{Account: long, Stale: api.Opening{Nodes: bad}}, api.ErrArg)
	refuseLookup(t, "too many fresh nodes, a wrong Len among the stale",
		api.Lookup{Fresh: api.Opening{Nodes: many}, Stale: api.Opening{Nodes: bad[len(bad)-1:]}}, api.ErrArg)
	refuseLookup(t, "no wrong Len", api.Lookup{Account: long}, api.ErrLarge)
}
