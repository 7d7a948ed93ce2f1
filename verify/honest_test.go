package verify_test

import (
	"fmt"
	"math/rand"
	"slices"
	"testing"

	"beacon/api"
	"beacon/directory"
	"beacon/disk"
	"beacon/keyring"
	"beacon/publisher"
	"beacon/verify"
	"beacon/wire"
)

// P17.5, and P4 as far as it speaks of this layer: what a directory answers is
// accepted, under the keys of its root's generation, and under no others.

// server is what shows: a directory, or one that is durable.
type server interface {
	First() api.Keys
	Certs() []api.Cert
	Root() api.Root
	Step(epoch uint64) (api.Step, api.Errno)
	Lookup(account string) (api.Lookup, api.Errno)
	History(account string) (api.History, api.Errno)
}

// keysAt are the keys that sign an epoch's root, found by the certificates alone.
func keysAt(t *testing.T, s server, r api.Root) api.Keys {
	t.Helper()
	all, e := keyring.Chain(s.First(), s.Certs())
	if e != api.OK || keyring.At(s.First(), s.Certs(), r.Epoch) != all[r.Gen] {
		t.Fatal(e, r)
	}
	return all[r.Gen]
}

// refused are keys under which nothing of the root is accepted, and what is answered.
func refused(keys api.Keys) map[api.Keys]api.Errno {
	stranger := keyring.Public([32]byte{200}, keys.Gen)
	up, down := keys, keys
	up.Gen++
	down.Gen--
	return map[api.Keys]api.Errno{stranger: api.ErrSig, up: api.ErrArg, down: api.ErrArg}
}

func expectLookup(t *testing.T, s server, account string) {
	t.Helper()
	l, e := s.Lookup(account)
	if e != api.OK {
		t.Fatal(account, e)
	}
	keys := keysAt(t, s, l.Root)
	if e := (lookupCase{keys: keys, l: l}).ask(t); e != api.OK {
		t.Errorf("Lookup of %s at epoch %d: %v", account, l.Root.Epoch, e)
	}
	h, e := s.History(account)
	if e != api.OK {
		t.Fatal(account, e)
	}
	if e := verify.History(keys, h); e != api.OK {
		t.Errorf("History of %s at epoch %d: %v", account, h.Root.Epoch, e)
	}
	for other, want := range refused(keys) {
		if e := verify.Lookup(other, l); e != want {
			t.Errorf("Lookup under other keys: %v, want %v", e, want)
		}
		if e := verify.History(other, h); e != want {
			t.Errorf("History under other keys: %v, want %v", e, want)
		}
	}
}

// expectSteps goes through all epochs, as an auditor does, by their bytes.
func expectSteps(t *testing.T, s server) {
	t.Helper()
	first, e := s.Step(0)
	if e != api.OK {
		t.Fatal(e)
	}
	last := first.Root
	for epoch := uint64(1); epoch <= s.Root().Epoch; epoch++ {
		step, e := s.Step(epoch)
		if e != api.OK {
			t.Fatal(epoch, e)
		}
		keys := keysAt(t, s, step.Root)
		if e := (stepCase{keys: keys, before: last, s: step}).ask(t); e != api.OK {
			t.Errorf("Step of epoch %d: %v", epoch, e)
		}
		for other, want := range refused(keys) {
			if e := verify.Step(other, last, step); e != want {
				t.Errorf("Step under other keys: %v, want %v", e, want)
			}
		}
		if e := verify.Step(keys, step.Root, step); e != api.ErrArg {
			t.Errorf("Step behind itself: %v", e)
		}
		last = step.Root
	}
	if last != s.Root() {
		t.Error(last, s.Root())
	}
}

func drawnDevices(r *rand.Rand) (list [][32]byte) {
	for range r.Intn(api.MostDevices + 1) {
		var d [32]byte
		r.Read(d[:])
		list = append(list, d)
	}
	slices.SortFunc(list, func(a, b [32]byte) int { return slices.Compare(a[:], b[:]) })
	return list
}

func drawnBatch(r *rand.Rand, most int) (batch []api.Update) {
	for i := range 1 + r.Intn(most) {
		batch = append(batch, api.Update{Account: fmt.Sprint("account-", i, ".", r.Intn(3)), Devices: drawnDevices(r)})
	}
	return batch
}

func TestWhatADirectoryAnswersIsAccepted(t *testing.T) {
	for seed := range int64(4) {
		r := rand.New(rand.NewSource(seed))
		d := directory.New([32]byte{byte(seed)})
		kept := map[uint64]api.Lookup{}
		for call := range 25 {
			switch {
			case d.Moving() > 0:
				d.Move(1 + r.Intn(12))
			case r.Intn(4) == 0:
				d.Rotate([32]byte{byte(seed), byte(call), 1})
			default:
				d.Publish(drawnBatch(r, 4))
			}
			expectLookup(t, d, fmt.Sprint("account-0.", r.Intn(3)))
			expectLookup(t, d, "nobody")
			kept[d.Root().Epoch], _ = d.Lookup("account-0.0")
		}
		expectSteps(t, d)
		for epoch, l := range kept {
			if e := verify.Lookup(keysAt(t, d, l.Root), l); e != api.OK {
				t.Errorf("the lookup of epoch %d, later: %v", epoch, e)
			}
		}
		if d.Root().Gen == 0 {
			t.Error("the story has no move")
		}
	}
}

// The edges: nothing published, a move of nothing, moves one behind the other, the
// longest names and lists, the greatest batch.
func TestEdgesOfADirectory(t *testing.T) {
	d := directory.New([32]byte{})
	longest := "zyxwvutsrqponmlkjihgfedcba._-987"
	accounts := []string{"a", longest, "0"}
	ask := func() {
		t.Helper()
		for _, account := range accounts {
			expectLookup(t, d, account)
		}
		expectSteps(t, d)
	}
	ask()
	for gen := range byte(2) {
		d.Rotate([32]byte{gen + 1})
		ask()
		d.Move(1)
		ask()
	}
	var batch []api.Update
	for i := range api.MostBatch - 1 {
		batch = append(batch, api.Update{Account: fmt.Sprint("a", i), Devices: devices(1, 2, 3, 4, 5, 6, 7, 8)})
	}
	for range 2 {
		d.Publish(append(batch, api.Update{Account: longest}))
		ask()
	}
	d.Rotate([32]byte{9})
	d.Move(60)
	ask()
	d.Move(60)
	ask()
	if r := d.Root(); r.Epoch != 5 || r.Gen != 3 || d.Moving() != 0 {
		t.Error(r, d.Moving())
	}
}

func TestWhatAPublisherAnswersIsAccepted(t *testing.T) {
	d, _ := disk.New(2000)
	p, e := publisher.Open(d, [32]byte{1})
	if e != api.OK {
		t.Fatal(e)
	}
	for i := range byte(9) {
		p.Submit(api.Update{Account: fmt.Sprint("account-", i%4), Devices: devices(i)})
		if i == 5 {
			p.Rotate([32]byte{2})
		}
		p.Tick(2)
		expectLookup(t, p, "account-1")
		expectLookup(t, p, "nobody")
	}
	expectSteps(t, p)
	d.Restart(nil)
	again, e := publisher.Open(d, [32]byte{1})
	if e != api.OK || again.Root() != p.Root() || p.Root().Gen != 1 {
		t.Fatal(e, again.Root(), p.Root())
	}
	expectLookup(t, again, "account-1")
	expectSteps(t, again)
}

// Epochs of two directories of one secret don't follow one another, once they differ.
func TestStepsOfAnotherHistory(t *testing.T) {
	one, other := directory.New([32]byte{1}), directory.New([32]byte{1})
	for i := range byte(3) {
		one.Publish([]api.Update{{Account: "a", Devices: devices(i)}})
		other.Publish([]api.Update{{Account: "a", Devices: devices(i + 1)}})
	}
	before, _ := one.Step(1)
	s, _ := other.Step(2)
	if e := verify.Step(one.First(), before.Root, s); e != api.ErrArg {
		t.Error(e)
	}
	l, _ := one.Lookup("a")
	l.Root = other.Root()
	if e := verify.Lookup(one.First(), l); e != api.ErrSig {
		t.Error(e)
	}
	b, _ := wire.EncodeStep(s)
	if _, e := verify.StepBytes(one.First(), before.Root, b); e != api.ErrArg {
		t.Error(e)
	}
}
