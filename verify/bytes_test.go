package verify_test

import (
	"math/rand"
	"slices"
	"testing"

	"beacon/api"
	"beacon/keyring"
	"beacon/verify"
	"beacon/wire"
)

// P17.4: LookupBytes and StepBytes, of bytes that are no lookup's or step's, or of
// one that is refused. (Each fault of the other tests is asked of them too.)

func lookupBytes(t *testing.T, l api.Lookup) []byte {
	t.Helper()
	b, e := wire.EncodeLookup(l)
	if e != api.OK {
		t.Fatal(e)
	}
	return b
}

func stepBytes(t *testing.T, s api.Step) []byte {
	t.Helper()
	b, e := wire.EncodeStep(s)
	if e != api.OK {
		t.Fatal(e)
	}
	return b
}

// shownBytes are calls that take bytes, each with bytes that it accepts.
type shownBytes struct {
	what string
	good []byte
	ask  func(b []byte) (any, api.Errno)
	none any // what stands beside an error
}

func allShown(t *testing.T) (list []shownBytes) {
	t.Helper()
	for _, c := range []lookupCase{lookupOf(twice("a"), "a", 2, devices(2, 3)), lookupOf(some(), "nobody", 0, nil)} {
		list = append(list, shownBytes{"lookup of " + c.l.Account, lookupBytes(t, c.l), func(b []byte) (any, api.Errno) {
			l, e := verify.LookupBytes(c.keys, b)
			return l, e
		}, api.Lookup{}})
	}
	for _, c := range []stepCase{appendOf(some(), more()), migrateOf(some())} {
		list = append(list, shownBytes{"step", stepBytes(t, c.s), func(b []byte) (any, api.Errno) {
			s, e := verify.StepBytes(c.keys, c.before, b)
			return s, e
		}, api.Step{}})
	}
	return list
}

func (s shownBytes) expectForm(t *testing.T, b []byte) {
	t.Helper()
	if got, e := s.ask(b); e != api.ErrForm || !alike(got, s.none) {
		t.Errorf("%s: %v %v", s.what, got, e)
	}
}

func TestBytesOfNothing(t *testing.T) {
	shown := allShown(t)
	for i, s := range shown {
		if _, e := s.ask(s.good); e != api.OK {
			t.Error(s.what, e)
		}
		for n := range s.good {
			s.expectForm(t, s.good[:n])
			if n > 0 {
				s.expectForm(t, s.good[n:])
			}
		}
		s.expectForm(t, nil)
		s.expectForm(t, []byte{})
		s.expectForm(t, append(slices.Clone(s.good), 0))
		s.expectForm(t, slices.Concat(s.good, s.good))
		s.expectForm(t, make([]byte, 16*api.MostRecord))
		s.expectForm(t, make([]byte, 16*api.MostRecord+1))
		s.expectForm(t, shown[(i+2)%4].good)
	}
	r := rand.New(rand.NewSource(4))
	for range 500 {
		b := make([]byte, r.Intn(300))
		r.Read(b)
		for _, s := range shown {
			s.expectForm(t, b)
		}
	}
}

// Each byte counts: none can be turned in what is accepted.
func TestBytesTurned(t *testing.T) {
	r := rand.New(rand.NewSource(5))
	for _, s := range allShown(t) {
		for i := range s.good {
			b := slices.Clone(s.good)
			b[i] ^= 1 << r.Intn(8)
			if got, e := s.ask(b); e == api.OK || !alike(got, s.none) {
				t.Errorf("%s: the byte %d turned: %v %v", s.what, i, got, e)
			}
		}
	}
}

// Whether there is such a thing is asked ahead of all else.
func TestFormAheadOfAll(t *testing.T) {
	c := lookupOf(some(), "nobody", 0, nil)
	c.l.Account, c.keys.Gen = "NOBODY", 77
	b := lookupBytes(t, c.l)
	if _, e := verify.LookupBytes(c.keys, b); e != api.ErrArg {
		t.Error(e)
	}
	if _, e := verify.LookupBytes(c.keys, b[:len(b)-1]); e != api.ErrForm {
		t.Error(e)
	}
	s := appendOf(some(), more())
	s.before.Epoch++
	b = stepBytes(t, s.s)
	if _, e := verify.StepBytes(s.keys, s.before, b); e != api.ErrArg {
		t.Error(e)
	}
	if _, e := verify.StepBytes(s.keys, s.before, b[:len(b)-1]); e != api.ErrForm {
		t.Error(e)
	}
}

// R1: each call ends, and none panics, whatever it is given.
func TestDrawnThings(t *testing.T) {
	r := rand.New(rand.NewSource(6))
	hash := func() (b [32]byte) {
		if r.Intn(2) == 0 {
			r.Read(b[:])
		}
		return b
	}
	number := func() uint64 { return []uint64{0, 1, 2, 3, 1<<63 - 1, 1 << 63, 1<<64 - 1}[r.Intn(7)] }
	nodes := func() (list []api.Node) {
		for range r.Intn(4) {
			n := []int{-1 << 63, -1, 0, 1, 255, 256, 257, 1<<63 - 1}[r.Intn(8)]
			list = append(list, api.Node{Len: n, Prefix: hash(), Hash: hash()})
		}
		return list
	}
	account := func() string { return []string{"", "a", "A", "\xff", "name"}[r.Intn(5)] }
	list := func() (list [][32]byte) {
		for range r.Intn(3) {
			list = append(list, hash())
		}
		return list
	}
	opening := func() (o api.Opening) {
		h := hash()
		copy(o.Proof[:], h[:])
		o.Nodes = nodes()
		return o
	}
	for range 2000 {
		root := keyring.SignRoot(secret, api.Root{Epoch: number(), Kind: number(), Gen: number(), Prev: hash(), Hash: hash(), Link: hash()})
		before := api.Root{Epoch: root.Epoch - 1, Kind: number(), Gen: number(), Hash: root.Prev}
		keys := api.Keys{Gen: root.Gen, Sign: keyring.Public(secret, 0).Sign, Vrf: hash()}
		l := api.Lookup{Root: root, Account: account(), Version: number(), Devices: list(), Fresh: opening(), Stale: opening()}
		if e := verify.Lookup(keys, l); e == api.OK {
			t.Error(l)
		}
		h := api.History{Root: root, Account: account(), Next: opening()}
		for range r.Intn(3) {
			h.Versions, h.Fresh = append(h.Versions, list()), append(h.Fresh, opening())
		}
		if e := verify.History(keys, h); e == api.OK {
			t.Error(h)
		}
		s := api.Step{Root: root, Nodes: nodes()}
		for range r.Intn(2) {
			s.Added, s.Links = append(s.Added, api.Leaf{Label: hash()}), append(s.Links, api.Link{Old: hash(), New: hash()})
		}
		if e := verify.Step(keys, before, s); e == api.OK {
			t.Error(s)
		}
		verify.Step(api.Keys{}, api.Root{}, s)
	}
	for _, e := range []api.Errno{
		verify.Lookup(api.Keys{}, api.Lookup{}), verify.History(api.Keys{}, api.History{}),
		verify.Step(api.Keys{}, api.Root{}, api.Step{}),
	} {
		if e != api.ErrArg {
			t.Error("nothing at all:", e)
		}
	}
}
