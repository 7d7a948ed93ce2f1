package directory_test

import (
	"fmt"
	"math"
	"strings"
	"testing"

	"beacon/api"
	"beacon/directory"
)

// P15.1: New, First, Certs, Root, Moving, Step, Devices. P15.2: Publish.

func TestNew(t *testing.T) {
	for _, secret := range [][32]byte{{}, {1}, {31: 1}, {0: 255, 31: 255}} {
		p := newPair(t, secret)
		want := signed(secret, api.Root{Hash: hash([]byte{0})})
		if r := p.dir.Root(); r != want || r.Kind != api.Genesis {
			t.Errorf("%v; want %v", r, want)
		}
		if k := p.dir.First(); k != plainKeys(secret, 0) {
			t.Error(k)
		}
		if len(p.dir.Certs()) != 0 || p.dir.Moving() != 0 {
			t.Error(p.dir.Certs(), p.dir.Moving())
		}
		s, e := p.dir.Step(0)
		if e != api.OK || s.Root != want || len(s.Nodes)+len(s.Added)+len(s.Links) != 0 {
			t.Error(s, e)
		}
	}
}

func TestNoSuchEpoch(t *testing.T) {
	p := newPair(t, [32]byte{1})
	for range 3 {
		latest := p.dir.Root().Epoch
		for _, epoch := range []uint64{latest + 1, latest + 2, 1 << 31, 1 << 32, 1<<63 - 1, 1 << 63, 1<<64 - 2, math.MaxUint64} {
			p.expectStep(epoch)
			if s, e := p.dir.Step(epoch); e != api.ErrNone || s.Root != (api.Root{}) {
				t.Error(epoch, s, e)
			}
		}
		p.publish(update("a", byte(latest)))
	}
}

// The chapter's examples.
func TestExamples(t *testing.T) {
	p := newPair(t, [32]byte{1})
	p.publish(update("a", 1))
	if p.dir.Root().Epoch != 1 {
		t.Error(p.dir.Root())
	}
	l, e := p.dir.Lookup("a")
	only := leafNodes([]api.Leaf{{Label: plainLabel([32]byte{1}, name{"a", 1, false}).label, Value: plainValue([][32]byte{{31: 1}})}})
	expect(t, "the leaf's node alone", all(l.Fresh.Nodes, l.Stale.Nodes, e), all(only, only, api.OK))
	if e := p.publish(update("a", 1), update("a", 2)); e != api.ErrArg {
		t.Error(e)
	}
	p.rotate([32]byte{2})
	if e := p.publish(update("b", 1)); e != api.ErrBusy {
		t.Error(e)
	}
	p.move(100)
	if r := p.dir.Root(); r.Epoch != 2 || r.Kind != api.Migrate || r.Gen != 1 {
		t.Error(r)
	}
}

// many are updates of so many accounts.
func many(n int, device byte) (batch []api.Update) {
	for i := range n {
		batch = append(batch, update(fmt.Sprintf("account-%d", i), device))
	}
	return batch
}

func TestSizesOfABatch(t *testing.T) {
	p := newPair(t, [32]byte{1})
	for _, n := range []int{0, 33, 34, 64, 65, 1000} {
		if e := p.publish(many(n, 1)...); e != api.ErrArg {
			t.Error(n, e)
		}
	}
	if _, e := p.dir.Publish([]api.Update{}); e != api.ErrArg {
		t.Error(e)
	}
	for _, n := range []int{1, 2, 31, 32} {
		if e := p.publish(many(n, byte(n))...); e != api.OK {
			t.Error(n, e)
		}
	}
	p.expectState()
}

func devices(b ...byte) [][32]byte { return update("", b...).Devices }

func rising(n int) [][32]byte {
	var list [][32]byte
	for i := range n {
		list = append(list, [32]byte{byte(i)})
	}
	return list
}

func wrongAccounts() []string {
	return []string{
		"", "A", "aB", "a b", " a", "a ", "a\n", "\na", "a\x00", "a/b", "a:b", "ä", "aä", "\xff", "a\xff", "a\u0301", "@", "`", "{", ",",
		strings.Repeat("a", 33), strings.Repeat("a", 1000), strings.Repeat("ä", 16),
	}
}

func wrongDevices() [][][32]byte {
	return [][][32]byte{
		rising(9), rising(100), devices(1, 1), devices(2, 1), devices(1, 2, 2), devices(1, 3, 2), devices(0, 0),
		{{1}, {31: 255}},              // rising by the last byte, not the first
		{{0: 1, 31: 1}, {0: 1}},       // falling in the last byte
		append(rising(7), [32]byte{}), // the last one of eight falls
	}
}

// One update that is none is enough, wherever it stands; nothing is published.
func TestUpdatesThatAreNone(t *testing.T) {
	p := newPair(t, [32]byte{1})
	p.publish(update("a", 1), update("b"))
	var bad []api.Update
	for _, a := range wrongAccounts() {
		bad = append(bad, update(a, 1))
	}
	for _, d := range wrongDevices() {
		bad = append(bad, api.Update{Account: "c", Devices: d})
	}
	for _, u := range bad {
		for _, batch := range [][]api.Update{
			{u}, {u, update("a", 2)}, {update("a", 2), u}, {update("a", 2), u, update("b")},
			append(many(31, 1), u), append([]api.Update{u}, many(31, 1)...),
		} {
			if e := p.publish(batch...); e != api.ErrArg {
				t.Errorf("%q: %v", batch, e)
			}
		}
	}
	p.expectState()
	if p.dir.Root().Epoch != 1 {
		t.Error(p.dir.Root())
	}
}

func TestAnAccountTwice(t *testing.T) {
	p := newPair(t, [32]byte{1})
	p.publish(update("a", 1))
	for _, batch := range [][]api.Update{
		{update("a", 1), update("a", 1)}, {update("b", 1), update("b", 2)}, {update("b"), update("b")},
		{update("b", 1), update("a", 1), update("b", 2)}, {update("a", 1), update("b", 1), update("b", 2)},
		append(many(31, 1), update("account-0", 2)), append(many(31, 1), update("account-30", 1)),
	} {
		if e := p.publish(batch...); e != api.ErrArg {
			t.Errorf("%q: %v", batch, e)
		}
	}
	if e := p.publish(update("a", 1), update("aa", 1), update("a.", 1), update("a-", 1), update("a_", 1), update(strings.Repeat("a", 32), 1)); e != api.OK {
		t.Error(e)
	}
	p.expectState()
}

// What is asked of the batch is asked first, also while it moves.
func TestPublishWhileMoving(t *testing.T) {
	p := newPair(t, [32]byte{1})
	p.publish(update("a", 1), update("b", 1))
	p.rotate([32]byte{2})
	for range 2 {
		for _, batch := range [][]api.Update{nil, many(33, 1), {update("A", 1)}, {update("c", 2, 1)}, {update("c"), update("c")}} {
			if e := p.publish(batch...); e != api.ErrArg {
				t.Errorf("%q: %v", batch, e)
			}
		}
		if e := p.publish(update("c", 1)); e != api.ErrBusy {
			t.Error(e)
		}
		p.expectState()
		p.move(1)
		if p.dir.Moving() == 0 {
			break
		}
	}
	if e := p.publish(update("c", 1)); e != api.OK {
		t.Error(e)
	}
	p.expectState()
}

// A list may be any, also the one that is there already, or none; each is a version.
func TestVersions(t *testing.T) {
	p := newPair(t, [32]byte{1})
	longest := strings.Repeat("z", 32)
	lists := [][][32]byte{devices(1), devices(1), nil, {}, rising(8), devices(0), {{0: 255, 31: 255}}, devices(1)}
	for i, list := range lists {
		for _, account := range []string{"a", longest, "0", "."} {
			if e := p.publish(api.Update{Account: account, Devices: list}); e != api.OK {
				t.Fatal(e)
			}
			got, n := p.dir.Devices(account)
			expect(t, "Devices", all(got, n), all(list, i+1))
			s, _ := p.dir.Step(p.dir.Root().Epoch)
			if want := min(i+1, 2); len(s.Added) != want {
				t.Errorf("version %d: %d added", i+1, len(s.Added))
			}
		}
	}
	p.expectState()
	for _, account := range append(wrongAccounts(), "b", "aa") {
		if got, n := p.dir.Devices(account); len(got) != 0 || n != 0 {
			t.Error(account, got, n)
		}
	}
}

// What an update adds hangs on its account's versions alone: a batch's order, and
// where batches end, change no leaf.
func TestOrderOfABatch(t *testing.T) {
	a, b, c := update("a", 1), update("b", 2), update("c", 3)
	var roots [][32]byte
	for _, batches := range [][][]api.Update{{{a, b, c}}, {{c, b, a}}, {{a}, {b}, {c}}, {{b, c}, {a}}} {
		p := newPair(t, [32]byte{9})
		for _, batch := range batches {
			p.publish(batch...)
		}
		p.expectState()
		roots = append(roots, p.dir.Root().Hash)
	}
	for _, r := range roots {
		if r != roots[0] {
			t.Error(r, roots[0])
		}
	}
}

// R1: a nil directory, and one that New hasn't made.
func TestNone(t *testing.T) {
	var none *directory.Dir
	for _, d := range []*directory.Dir{none, {}} {
		if d.First() != (api.Keys{}) || len(d.Certs()) != 0 || d.Root() != (api.Root{}) || d.Moving() != 0 {
			t.Error("no zeros")
		}
		if l, n := d.Devices("a"); len(l) != 0 || n != 0 {
			t.Error(l, n)
		}
		for range 2 {
			s, e := d.Step(0)
			expect(t, "Step", all(s, e), all(api.Step{}, api.ErrArg))
			r, e := d.Publish([]api.Update{update("a", 1)})
			expect(t, "Publish", all(r, e), all(api.Root{}, api.ErrArg))
			c, e := d.Rotate([32]byte{1})
			expect(t, "Rotate", all(c, e), all(api.Cert{}, api.ErrArg))
			r, done, e := d.Move(1)
			expect(t, "Move", all(r, done, e), all(api.Root{}, false, api.ErrArg))
			l, e := d.Lookup("a")
			expect(t, "Lookup", all(l, e), all(api.Lookup{}, api.ErrArg))
			h, e := d.History("a")
			expect(t, "History", all(h, e), all(api.History{}, api.ErrArg))
		}
	}
}
