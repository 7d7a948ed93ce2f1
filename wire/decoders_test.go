package wire_test

import (
	"bytes"
	"math/rand"
	"slices"
	"testing"

	"beacon/api"
)

// samples are the members of some things of each kind, by kinds' order.
func samples(r *rand.Rand) [][][][]byte {
	out := make([][][][]byte, 3)
	for _, n := range []int{0, 1, 2, 3} {
		out[0] = append(out[0], rootMembers(drawnRoot(r)))
		out[1] = append(out[1], lookupMembers(drawnLookup(r, n)))
		out[2] = append(out[2], stepMembers(drawnStep(r, n)))
	}
	full := drawnLookup(r, 2)
	full.Account, full.Devices = "a.b-c_9", [][32]byte{{1}, {2}}
	full.Fresh.Nodes, full.Stale.Nodes = drawnNodes(r, 2), drawnNodes(r, 3)
	out[1] = append(out[1], lookupMembers(full))
	step := api.Step{Root: drawnRoot(r), Nodes: drawnNodes(r, 2), Added: make([]api.Leaf, 2), Links: make([]api.Link, 2)}
	out[2] = append(out[2], stepMembers(step))
	return out
}

// each goes through the samples with the decoder of their kind.
func each(t *testing.T, seed int64, try func(k kind, list [][]byte)) {
	t.Helper()
	all := samples(rand.New(rand.NewSource(seed)))
	for i, k := range kinds() {
		for _, list := range all[i] {
			if !holdThing(t, "as it is", k, written(list...)) {
				t.Errorf("%s(%x) isn't taken", k.name, short(written(list...)))
			}
			try(k, list)
		}
	}
}

func TestTurnedBytesOfThings(t *testing.T) {
	each(t, 31, func(k kind, list [][]byte) {
		b := written(list...)
		for i := range b {
			for bit := range 8 {
				b[i] ^= 1 << bit
				holdThing(t, "turned", k, b)
				b[i] ^= 1 << bit
			}
		}
	})
}

func TestPiecesOfThings(t *testing.T) {
	each(t, 32, func(k kind, list [][]byte) {
		b := written(list...)
		for n := range b {
			refuseThing(t, "cut", k, b[:n])
			if n > 0 {
				refuseThing(t, "its end", k, b[n:])
			}
		}
		for _, more := range [][]byte{{0}, {0xff}, {0, 0, 0, 0}, {0, 0, 0, 1, 0}, b} {
			refuseThing(t, "lengthened", k, slices.Concat(b, more))
		}
	})
}

func TestOtherMembers(t *testing.T) {
	each(t, 33, func(k kind, list [][]byte) {
		for i := range list {
			refuseThing(t, "a member fewer", k, written(slices.Delete(slices.Clone(list), i, i+1)...))
		}
		for i := range len(list) + 1 {
			for _, more := range [][]byte{nil, {0}, make([]byte, 8), make([]byte, 64), list[0]} {
				refuseThing(t, "a member more", k, written(slices.Insert(slices.Clone(list), i, more)...))
			}
		}
		refuseThing(t, "no member", k, written())
		refuseThing(t, "its word alone", k, written(list[0]))
		refuseThing(t, "a list of it", k, written(written(list...)))
		for i := 1; i < len(list); i++ {
			swapped := slices.Clone(list)
			swapped[i-1], swapped[i] = swapped[i], swapped[i-1]
			holdThing(t, "two members swapped", k, written(swapped...))
		}
	})
}

func TestOtherWords(t *testing.T) {
	words := []string{"", "root", "signed", "lookup", "step", "Root", "ROOT", "signed ", " step", "roo", "ste", "steps", "lookup\x00"}
	each(t, 34, func(k kind, list [][]byte) {
		for _, w := range words {
			if w != string(list[0]) {
				other := slices.Clone(list)
				other[0] = []byte(w)
				refuseThing(t, "the word "+w, k, written(other...))
			}
		}
	})
}

func TestThingsOfOtherKinds(t *testing.T) {
	all := samples(rand.New(rand.NewSource(35)))
	for i, k := range kinds() {
		for j := range all {
			for _, list := range all[j] {
				if i != j {
					refuseThing(t, "another thing", k, written(list...))
				}
			}
		}
		refuseThing(t, "what is signed alone", k, written(unsignedMembers(api.Root{})...))
	}
}

func TestFieldsOfOtherLengths(t *testing.T) {
	each(t, 36, func(k kind, list [][]byte) {
		for i, field := range list {
			others := [][]byte{nil, append(slices.Clone(field), 0), append([]byte{0}, field...), slices.Concat(field, field)}
			if len(field) > 0 {
				others = append(others, field[1:], field[:len(field)-1])
			}
			for _, n := range []int{2, 7, 8, 9, 31, 32, 33, 63, 64, 65, 66, 67, 79, 80, 81, 95, 96, 97, 128, 132, 192, 6336} {
				others = append(others, make([]byte, n), bytes.Repeat([]byte{1}, n), bytes.Repeat([]byte{0xff}, n))
			}
			for _, other := range others {
				changed := slices.Clone(list)
				changed[i] = other
				holdThing(t, "a field of another length", k, written(changed...))
			}
		}
	})
}

// What stands inside a root must hold too, wherever the root stands.
func TestRootsInside(t *testing.T) {
	r := api.Root{Epoch: 1, Kind: 2, Gen: 3, Sig: [64]byte{4}}
	var roots [][]byte
	for i, field := range unsignedMembers(r) {
		for _, other := range [][]byte{nil, field[1:], append(slices.Clone(field), 0), make([]byte, 8), make([]byte, 32)} {
			list := unsignedMembers(r)
			list[i] = other
			roots = append(roots, written([]byte("signed"), written(list...), r.Sig[:]))
		}
		list := slices.Delete(unsignedMembers(r), i, i+1)
		roots = append(roots, written([]byte("signed"), written(list...), r.Sig[:]))
	}
	inside := written(unsignedMembers(r)...)
	roots = append(roots, nil, inside,
		written([]byte("signed"), append(slices.Clone(inside), 0), r.Sig[:]),
		written([]byte("signed"), inside[:len(inside)-1], r.Sig[:]),
		written([]byte("signed"), written(append(unsignedMembers(r), nil)...), r.Sig[:]),
		written([]byte("signed"), written(rootMembers(r)...), r.Sig[:]),
		append(written(rootMembers(r)...), 0))
	k := kinds()
	for _, b := range roots {
		holdThing(t, "a root", k[0], b)
		lookup, step := lookupMembers(api.Lookup{}), stepMembers(api.Step{})
		lookup[1], step[1] = b, b
		holdThing(t, "a root in a lookup", k[1], written(lookup...))
		holdThing(t, "a root in a step", k[2], written(step...))
	}
}

func TestLensInside(t *testing.T) {
	r := rand.New(rand.NewSource(37))
	for _, n := range []int{0, 1, 255, 256, 257, 258, 511, 512, 4096, 32767, 32768, 65535} {
		for size := 1; size <= 3; size++ {
			for at := range size {
				list := drawnNodes(r, size)
				list[at].Len = n
				fresh, stale, step := lookupMembers(api.Lookup{}), lookupMembers(api.Lookup{}), stepMembers(api.Step{})
				fresh[6], stale[8], step[2] = nodesBytes(list), nodesBytes(list), nodesBytes(list)
				k := kinds()
				for _, got := range []bool{
					holdThing(t, "fresh nodes", k[1], written(fresh...)),
					holdThing(t, "stale nodes", k[1], written(stale...)),
					holdThing(t, "nodes", k[2], written(step...)),
				} {
					if got != (n <= 256) {
						t.Errorf("Len %d: %v", n, got)
					}
				}
			}
		}
	}
}

func TestDecodersAtAnyBytes(t *testing.T) {
	r := rand.New(rand.NewSource(38))
	great := bytes.Repeat([]byte{0, 0, 0, 1}, mostBytes/4+1)
	for _, k := range kinds() {
		refuseThing(t, "nil", k, nil)
		for n := range 300 {
			refuseThing(t, "noughts", k, make([]byte, n))
			refuseThing(t, "full bytes", k, bytes.Repeat([]byte{0xff}, n))
			refuseThing(t, "any bytes", k, drawn(r, n))
		}
		refuseThing(t, "as many bytes as may be", k, great[:mostBytes])
		refuseThing(t, "one more", k, great[:mostBytes+1])
		refuseThing(t, "as many members as may be", k, written(make([][]byte, 65536)...))
		refuseThing(t, "one more", k, written(make([][]byte, 65537)...))
	}
}

func FuzzThings(f *testing.F) {
	for _, kind := range samples(rand.New(rand.NewSource(39))) {
		for _, list := range kind {
			f.Add(written(list...))
		}
	}
	f.Fuzz(func(t *testing.T, b []byte) {
		for _, k := range kinds() {
			holdThing(t, "fuzz", k, b)
		}
	})
}
