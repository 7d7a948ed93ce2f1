package wire_test

import (
	"bytes"
	"math/rand"
	"slices"
	"strings"
	"testing"

	"beacon/api"
	"beacon/wire"
)

// Rule R3: what is handed in is left as it is, its spare room too, and not kept;
// an answer is new memory, its spare room too.

// roomy is list with room behind it, filled with fill; whole is both.
func roomy[T any](list []T, fill T) (front, whole []T) {
	whole = append(slices.Clone(list), slices.Repeat([]T{fill}, 100)...)
	return whole[:len(list)], whole
}

// spoil fills all of a list, its spare room too.
func spoil[T any](list []T, fill T) {
	list = list[:cap(list)]
	for i := range list {
		list[i] = fill
	}
}

func TestEncodeLeavesAndKeepsNothing(t *testing.T) {
	one, oneWhole := roomy([]byte("one"), 0xaa)
	two, twoWhole := roomy([]byte{}, 0xbb)
	list, whole := roomy([][]byte{one, two, one[1:2], nil, one}, []byte("room"))
	want := written(list...)
	b, e := wire.Encode(list)
	expectBytes(t, "Encode", b, e, want)
	if !bytes.Equal(oneWhole, append([]byte("one"), bytes.Repeat([]byte{0xaa}, 100)...)) ||
		!bytes.Equal(twoWhole, bytes.Repeat([]byte{0xbb}, 100)) || string(whole[5]) != "room" || len(whole[3]) != 0 {
		t.Error("Encode has changed what was handed in")
	}
	spoil(oneWhole, 1)
	spoil(list, nil)
	expectBytes(t, "what Encode has answered", b, api.OK, want)
}

func TestDecodeLeavesAndKeepsNothing(t *testing.T) {
	list := [][]byte{[]byte("one"), {}, []byte("two"), []byte("two"), make([]byte, 300)}
	b, whole := roomy(written(list...), 0xaa)
	before := slices.Clone(whole)
	got, e := wire.Decode(b)
	if !alike(got, list) || e != api.OK || !bytes.Equal(whole, before) {
		t.Fatalf("Decode: %x, %v", got, e)
	}
	spoil(whole, 1)
	if !alike(got, list) {
		t.Errorf("what Decode has answered is changed: %x", got)
	}
	refuseDecode(t, "spare room is no part", before[:len(b)-1:len(before)], api.ErrForm)
}

func TestAnswersOfDecodeAreApart(t *testing.T) {
	list := [][]byte{[]byte("one"), {}, []byte("two"), []byte("three"), make([]byte, 33), nil, {7}}
	b := written(list...)
	for i := range list {
		got, _ := wire.Decode(b)
		other, _ := wire.Decode(b)
		spoil(got[i], 0x55)
		for j, m := range got {
			if j != i && !bytes.Equal(m, list[j]) {
				t.Errorf("member %d has changed with member %d", j, i)
			}
		}
		spoil(got, []byte("spoilt"))
		if !alike(other, list) || !bytes.Equal(b, written(list...)) {
			t.Errorf("another answer, or the argument, has changed with member %d", i)
		}
	}
	none, _ := wire.Decode(make([]byte, 4))
	spoil(none, []byte("spoilt"))
	if again, e := wire.Decode(make([]byte, 4)); len(again) != 0 || e != api.OK {
		t.Errorf("Decode of none: %x, %v", again, e)
	}
}

func TestAnswersInBytesAreApart(t *testing.T) {
	r := rand.New(rand.NewSource(41))
	root, lookup, step := drawnRoot(r), drawnLookup(r, 4), drawnStep(r, 4)
	for what, call := range map[string]func() []byte{
		"Num":       func() []byte { return wire.Num(258) },
		"Encode":    func() []byte { b, _ := wire.Encode(nil); return b },
		"Encode 2":  func() []byte { b, _ := wire.Encode([][]byte{[]byte("a")}); return b },
		"RootBytes": func() []byte { return wire.RootBytes(root) },
		"Root":      func() []byte { return wire.EncodeRoot(root) },
		"Lookup":    func() []byte { b, _ := wire.EncodeLookup(lookup); return b },
		"Step":      func() []byte { b, _ := wire.EncodeStep(step); return b },
	} {
		first, second := call(), call()
		want := slices.Clone(first)
		spoil(first, 0x55)
		if !bytes.Equal(second, want) || !bytes.Equal(call(), want) {
			t.Errorf("%s: two answers share memory", what)
		}
	}
}

// strange stand in spare room: no encoder may take or change them.
var (
	strangeNode = api.Node{Len: -7, Hash: [32]byte{7}}
	strangeLeaf = api.Leaf{Value: [32]byte{7}}
	strangeLink = api.Link{Value: [32]byte{7}}
)

func TestEncodeLookupLeavesAndKeepsNothing(t *testing.T) {
	for seed := range int64(20) {
		l := drawnLookup(rand.New(rand.NewSource(seed)), 5)
		want := written(lookupMembers(l)...)
		devices, devicesWhole := roomy(l.Devices, [32]byte{7})
		fresh, freshWhole := roomy(l.Fresh.Nodes, strangeNode)
		stale, staleWhole := roomy(l.Stale.Nodes, strangeNode)
		before := []any{slices.Clone(devicesWhole), slices.Clone(freshWhole), slices.Clone(staleWhole)}
		l.Devices, l.Fresh.Nodes, l.Stale.Nodes = devices, fresh, stale
		b, e := wire.EncodeLookup(l)
		expectBytes(t, "EncodeLookup", b, e, want)
		if !slices.Equal(devicesWhole, before[0].([][32]byte)) || !slices.Equal(freshWhole, before[1].([]api.Node)) ||
			!slices.Equal(staleWhole, before[2].([]api.Node)) {
			t.Error("EncodeLookup has changed what was handed in")
		}
		spoil(devicesWhole, [32]byte{9})
		spoil(freshWhole, strangeNode)
		spoil(staleWhole, strangeNode)
		expectBytes(t, "what EncodeLookup has answered", b, api.OK, want)
	}
}

func TestEncodeStepLeavesAndKeepsNothing(t *testing.T) {
	for seed := range int64(20) {
		s := drawnStep(rand.New(rand.NewSource(seed)), 5)
		want := written(stepMembers(s)...)
		nodes, nodesWhole := roomy(s.Nodes, strangeNode)
		added, addedWhole := roomy(s.Added, strangeLeaf)
		links, linksWhole := roomy(s.Links, strangeLink)
		before := api.Step{Nodes: slices.Clone(nodesWhole), Added: slices.Clone(addedWhole), Links: slices.Clone(linksWhole)}
		s.Nodes, s.Added, s.Links = nodes, added, links
		b, e := wire.EncodeStep(s)
		expectBytes(t, "EncodeStep", b, e, want)
		if !sameStep(before, api.Step{Nodes: nodesWhole, Added: addedWhole, Links: linksWhole}) {
			t.Error("EncodeStep has changed what was handed in")
		}
		spoil(nodesWhole, strangeNode)
		spoil(addedWhole, strangeLeaf)
		spoil(linksWhole, strangeLink)
		expectBytes(t, "what EncodeStep has answered", b, api.OK, want)
	}
}

func TestRefusedThingsStay(t *testing.T) {
	nodes, whole := roomy([]api.Node{{Len: 1}, {Len: 257}}, strangeNode)
	before := slices.Clone(whole)
	refuseLookup(t, "Fresh", api.Lookup{Fresh: api.Opening{Nodes: nodes}}, api.ErrArg)
	refuseLookup(t, "Stale", api.Lookup{Stale: api.Opening{Nodes: nodes}}, api.ErrArg)
	refuseStep(t, "Nodes", api.Step{Nodes: nodes}, api.ErrArg)
	if !slices.Equal(whole, before) {
		t.Error("what was refused has changed")
	}
}

func TestDecodersLeaveAndKeepNothing(t *testing.T) {
	r := rand.New(rand.NewSource(42))
	for _, most := range []int{0, 1, 5, 50} {
		root, lookup, step := drawnRoot(r), drawnLookup(r, most), drawnStep(r, most)
		b, whole := roomy(written(rootMembers(root)...), 0xaa)
		lookupBytes, lookupWhole := roomy(written(lookupMembers(lookup)...), 0xbb)
		stepBytes, stepWhole := roomy(written(stepMembers(step)...), 0xcc)
		before := slices.Concat(whole, lookupWhole, stepWhole)
		x, _ := wire.DecodeRoot(b)
		y, _ := wire.DecodeLookup(lookupBytes)
		z, _ := wire.DecodeStep(stepBytes)
		if !bytes.Equal(before, slices.Concat(whole, lookupWhole, stepWhole)) {
			t.Error("a decoder has changed what was handed in")
		}
		spoil(whole, 1)
		spoil(lookupWhole, 1)
		spoil(stepWhole, 1)
		if x != root || !sameLookup(y, lookup) || !sameStep(z, step) {
			t.Error("what a decoder has answered changes with what was handed in")
		}
	}
}

func TestAnswersOfDecodersAreApart(t *testing.T) {
	r := rand.New(rand.NewSource(43))
	for range 50 {
		lookup, step := drawnLookup(r, 6), drawnStep(r, 6)
		lookup.Stale.Nodes = slices.Clone(lookup.Fresh.Nodes)
		b, c := written(lookupMembers(lookup)...), written(stepMembers(step)...)
		x, _ := wire.DecodeLookup(b)
		y, _ := wire.DecodeLookup(b)
		account := strings.Clone(x.Account)
		spoil(x.Fresh.Nodes, strangeNode)
		if !sameNodes(x.Stale, lookup.Stale) || !slices.Equal(x.Devices, lookup.Devices) || x.Account != account {
			t.Error("the lists of a lookup share memory")
		}
		spoil(x.Devices, [32]byte{7})
		spoil(x.Stale.Nodes, strangeNode)
		if !sameLookup(y, lookup) || !bytes.Equal(b, written(lookupMembers(lookup)...)) {
			t.Error("two lookups share memory")
		}
		z, _ := wire.DecodeStep(c)
		again, _ := wire.DecodeStep(c)
		spoil(z.Nodes, strangeNode)
		spoil(z.Added, strangeLeaf)
		spoil(z.Links, strangeLink)
		if !sameStep(again, step) || !bytes.Equal(c, written(stepMembers(step)...)) {
			t.Error("two steps share memory")
		}
	}
}

func TestWordsLeaveTheirArguments(t *testing.T) {
	list, whole := roomy([][32]byte{{3}, {1}, {2}}, [32]byte{9})
	before := slices.Clone(whole)
	expectDevices(t, list, false)
	expectDevices(t, whole[1:3:len(whole)], true)
	expectDevices(t, list[:0], true)
	if !slices.Equal(whole, before) {
		t.Error("Devices has changed what was handed in")
	}
	b, bytesWhole := roomy(numBytes(258), 0xaa)
	if n, e := wire.ReadNum(b); n != 258 || e != api.OK {
		t.Errorf("ReadNum: %d, %v", n, e)
	}
	if n, e := wire.ReadNum(b[:7]); n != 0 || e != api.ErrForm {
		t.Errorf("ReadNum of seven bytes with room behind them: %d, %v", n, e)
	}
	if !bytes.Equal(bytesWhole, append(numBytes(258), bytes.Repeat([]byte{0xaa}, 100)...)) {
		t.Error("ReadNum has changed what was handed in")
	}
}
