package directory_test

import (
	"bytes"
	"fmt"
	"math"
	"slices"
	"testing"

	"beacon/api"
	"beacon/directory"
	"beacon/keyring"
)

// P15.3: Rotate. P15.4: Move. P5: a move is done within as many calls as its leaves ask.

// filled is a directory with so many leaves.
func filled(t *testing.T, leaves int) *pair {
	t.Helper()
	p := newPair(t, [32]byte{1})
	for n := 0; n < leaves; {
		// A second list adds two leaves; the last leaf may have to be a first list.
		if n%3 == 1 && n+2 <= leaves {
			p.publish(update(fmt.Sprint("account-", n-1), 2))
			n += 2
			continue
		}
		p.publish(update(fmt.Sprint("account-", n), 1))
		n++
	}
	return p
}

func TestRotate(t *testing.T) {
	for leaves := range 8 {
		p := filled(t, leaves)
		ahead := p.dir.Root()
		c, e := p.dir.Rotate([32]byte{2})
		want, _ := p.plain.rotate([32]byte{2})
		if e != api.OK || c != want || c.Epoch != ahead.Epoch+1 || c.Keys != plainKeys([32]byte{2}, 1) {
			t.Error(c, e)
		}
		if keyring.CheckCert(p.dir.First(), c) != api.OK {
			t.Error("the certificate doesn't hold")
		}
		if !slices.Equal(p.dir.Certs(), []api.Cert{c}) || p.dir.Moving() != leaves+1 || p.dir.Root() != ahead {
			t.Error(p.dir.Certs(), p.dir.Moving(), p.dir.Root())
		}
		p.expectState()
		for _, secret := range [][32]byte{{1}, {2}, {3}} {
			if e := p.rotate(secret); e != api.ErrBusy {
				t.Error(e)
			}
		}
		p.expectState()
		p.moveOn(2)
		p.expectState()
	}
}

// Moving tells what is left; roots, lookups and histories are the old ones till the end.
func TestMovesOfAllSizes(t *testing.T) {
	for leaves := range 9 {
		for most := 1; most <= leaves+2; most++ {
			p := filled(t, leaves)
			ahead := p.dir.Root()
			p.rotate([32]byte{2})
			left := leaves
			for left > most {
				r, done, e := p.dir.Move(most)
				p.plain.move(most)
				left -= most
				if r != ahead || done || e != api.OK || p.dir.Moving() != left+1 {
					t.Fatal(leaves, most, r, done, e, p.dir.Moving())
				}
			}
			r, done, e := p.dir.Move(most)
			p.plain.move(most)
			if !done || e != api.OK || r.Epoch != ahead.Epoch+1 || r.Kind != api.Migrate || r.Gen != 1 || r.Prev != ahead.Hash || p.dir.Moving() != 0 {
				t.Fatal(leaves, most, r, done, e, p.dir.Moving())
			}
			p.expectLatest()
			if done, e := p.move(most); done || e != api.ErrNone {
				t.Error(done, e)
			}
		}
	}
}

func TestShownWhileMoving(t *testing.T) {
	p := filled(t, 7)
	p.rotate([32]byte{2})
	for p.dir.Moving() > 0 {
		p.expectState()
		p.move(2)
	}
	p.expectState()
}

// P5: n / most calls, rounded up; of no leaves one.
func TestCallsOfAMove(t *testing.T) {
	for leaves := range 12 {
		for _, most := range []int{1, 2, 3, 5, 11, 12, 65535, 65536} {
			p := filled(t, leaves)
			p.rotate([32]byte{2})
			want := max(1, (leaves+most-1)/most)
			if calls := p.moveOn(most); calls != want {
				t.Errorf("%d leaves by %d: %d calls; want %d", leaves, most, calls, want)
			}
		}
	}
}

func TestMostThatIsNone(t *testing.T) {
	p := filled(t, 3)
	ask := func(otherwise api.Errno) {
		t.Helper()
		for _, most := range []int{0, -1, -2, math.MinInt, math.MinInt32, 65537, 65538, 1 << 17, math.MaxInt32, 1 << 32, 1<<32 + 1, math.MaxInt} {
			if done, e := p.move(most); done || e != api.ErrArg {
				t.Error(most, done, e)
			}
		}
		if otherwise == api.OK {
			return
		}
		for _, most := range []int{1, 2, 65535, 65536} {
			if done, e := p.move(most); done || e != otherwise {
				t.Error(most, done, e)
			}
		}
	}
	ask(api.ErrNone)
	p.rotate([32]byte{2})
	ask(api.OK)
	p.move(1)
	ask(api.OK)
	if p.dir.Moving() != 3 {
		t.Error(p.dir.Moving())
	}
	if done, e := p.move(65536); !done || e != api.OK {
		t.Error(done, e)
	}
	ask(api.ErrNone)
	p.expectState()
}

func TestStepOfAMove(t *testing.T) {
	p := filled(t, 9)
	p.rotate([32]byte{2})
	p.move(4)
	p.move(5)
	s, e := p.dir.Step(p.dir.Root().Epoch)
	if e != api.OK || s.Root != p.dir.Root() || len(s.Nodes) != 0 || len(s.Added) != 0 || len(s.Links) != 9 {
		t.Fatal(s, e)
	}
	var joined []byte
	for i, l := range s.Links {
		if i > 0 && bytes.Compare(s.Links[i-1].Old[:], l.Old[:]) >= 0 {
			t.Error("Old labels don't rise")
		}
		joined = slices.Concat(joined, l.Old[:], l.New[:], l.Value[:])
	}
	if s.Root.Link != hash(joined) || keyring.CheckRoot(plainKeys([32]byte{2}, 1), s.Root) != api.OK {
		t.Error(s.Root)
	}
}

// A directory of no leaves has an epoch for each move all the same.
func TestMoveOfNoLeaves(t *testing.T) {
	p := newPair(t, [32]byte{1})
	for i := range uint64(3) {
		p.rotate([32]byte{byte(i) + 2})
		if p.dir.Moving() != 1 {
			t.Error(p.dir.Moving())
		}
		if done, e := p.move(1); !done || e != api.OK {
			t.Error(done, e)
		}
		r := p.dir.Root()
		if r.Epoch != i+1 || r.Gen != i+1 || r.Kind != api.Migrate || r.Hash != hash([]byte{0}) || r.Prev != r.Hash || r.Link != hash() {
			t.Error(r)
		}
	}
	p.publish(update("a", 1))
	p.expectState()
}

// The next generation may have the secret of any, also of the one that it follows.
func TestSecretsAgain(t *testing.T) {
	p := newPair(t, [32]byte{1})
	for i, secret := range [][32]byte{{1}, {2}, {1}, {}, {}, {1}} {
		p.publish(update("a", byte(i)), update(fmt.Sprint("b", i), 1))
		p.rotate(secret)
		p.moveOn(3)
		p.expectState()
	}
	if all, e := keyring.Chain(p.dir.First(), p.dir.Certs()); len(all) != 7 || e != api.OK {
		t.Error(all, e)
	}
}

// Where the pieces of a move end changes nothing of its epoch.
func TestPiecesOfAMove(t *testing.T) {
	var want []any
	for _, pieces := range [][]int{{10}, {65536}, {1, 9}, {9, 1}, {3, 3, 3, 3}, {1, 1, 1, 1, 1, 1, 1, 1, 1, 1}} {
		d := directory.New([32]byte{4})
		d.Publish(many(10, 7))
		d.Rotate([32]byte{5})
		for i, most := range pieces {
			if _, done, e := d.Move(most); done != (i == len(pieces)-1) || e != api.OK {
				t.Fatal(pieces, i, done, e)
			}
		}
		s, e := d.Step(2)
		if want == nil {
			want = all(s, e)
		}
		expect(t, fmt.Sprint(pieces), all(s, e), want)
	}
}
