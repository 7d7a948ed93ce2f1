package directory_test

import (
	"fmt"
	"strings"
	"testing"

	"beacon/api"
	"beacon/directory"
	"beacon/grow"
	"beacon/keyring"
	"beacon/label"
	"beacon/tree"
)

// P15.5: Lookup. P15.6: History. And what is shown is accepted by the layers below.

func TestNoAccountIsShown(t *testing.T) {
	p := newPair(t, [32]byte{1})
	for range 2 {
		for _, account := range wrongAccounts() {
			l, e := p.dir.Lookup(account)
			expect(t, "Lookup", all(l, e), all(api.Lookup{}, api.ErrArg))
			h, e := p.dir.History(account)
			expect(t, "History", all(h, e), all(api.History{}, api.ErrArg))
		}
		p.publish(update("a", 1))
	}
}

func TestAnAccountWithoutLists(t *testing.T) {
	p := newPair(t, [32]byte{1})
	for _, leaves := range []int{0, 1, 5} {
		p.publish(many(leaves, 1)...)
		for _, account := range []string{"a", "nobody", strings.Repeat("-", 32), "account"} {
			l, e := p.dir.Lookup(account)
			if e != api.OK || l.Root != p.dir.Root() || l.Account != account || l.Version != 0 || len(l.Devices) != 0 {
				t.Error(l, e)
			}
			expect(t, "Fresh", all(l.Fresh), all(p.plain.opening(name{account, 1, false})))
			expect(t, "Stale", all(l.Stale), all(api.Opening{}))
			h, e := p.dir.History(account)
			if e != api.OK || h.Root != p.dir.Root() || h.Account != account || len(h.Versions) != 0 || len(h.Fresh) != 0 {
				t.Error(h, e)
			}
			expect(t, "Next", all(h.Next), all(l.Fresh))
			p.expectShown(account)
		}
	}
}

func TestAccountsWithLists(t *testing.T) {
	p := newPair(t, [32]byte{1})
	p.publish(many(6, 1)...)
	for v := uint64(1); v <= 5; v++ {
		p.publish(update("a", byte(v)), update(fmt.Sprint("account-", v), byte(v)))
		l, e := p.dir.Lookup("a")
		if e != api.OK || l.Root != p.dir.Root() || l.Account != "a" || l.Version != v {
			t.Error(l, e)
		}
		expect(t, "Devices", all(l.Devices), all(devices(byte(v))))
		expect(t, "Fresh", all(l.Fresh), all(p.plain.opening(name{"a", v, false})))
		expect(t, "Stale", all(l.Stale), all(p.plain.opening(name{"a", v, true})))
		h, e := p.dir.History("a")
		if e != api.OK || h.Root != p.dir.Root() || h.Account != "a" || uint64(len(h.Versions)) != v || uint64(len(h.Fresh)) != v {
			t.Fatal(h, e)
		}
		for i := range v {
			expect(t, "Versions", all(h.Versions[i]), all(devices(byte(i+1))))
			expect(t, "Fresh", all(h.Fresh[i]), all(p.plain.opening(name{"a", i + 1, false})))
		}
		expect(t, "Next", all(h.Next), all(p.plain.opening(name{"a", v + 1, false})))
	}
	p.expectState()
}

// found asks the layers below of an opening: the value that must stand there, or none.
func found(t *testing.T, keys api.Keys, root api.Root, n name, o api.Opening, value *[32]byte) {
	t.Helper()
	l, e := label.Check(keys.Vrf, n.account, n.version, n.stale, o.Proof)
	if e != api.OK {
		t.Fatal(n, e)
	}
	h, there, e := tree.Found(root.Hash, o.Nodes, l)
	var want [32]byte
	if value != nil {
		want = tree.LeafNode(api.Leaf{Label: l, Value: *value}).Hash
	}
	if h != want || there != (value != nil) || e != api.OK {
		t.Fatal(n, h, there, e)
	}
}

func accepted(t *testing.T, d *directory.Dir, account string) {
	t.Helper()
	l, e := d.Lookup(account)
	h, f := d.History(account)
	keys := keyring.At(d.First(), d.Certs(), l.Root.Epoch)
	if e != api.OK || f != api.OK || keyring.CheckRoot(keys, l.Root) != api.OK || h.Root != l.Root || l.Root != d.Root() {
		t.Fatal(account, e, f)
	}
	if l.Version == 0 {
		found(t, keys, l.Root, name{account, 1, false}, l.Fresh, nil)
	} else {
		value := plainValue(l.Devices)
		found(t, keys, l.Root, name{account, l.Version, false}, l.Fresh, &value)
		found(t, keys, l.Root, name{account, l.Version, true}, l.Stale, nil)
	}
	for i, list := range h.Versions {
		value := plainValue(list)
		found(t, keys, h.Root, name{account, uint64(i) + 1, false}, h.Fresh[i], &value)
	}
	found(t, keys, h.Root, name{account, uint64(len(h.Versions)) + 1, false}, h.Next, nil)
}

// audited goes from epoch to epoch, as an auditor does.
func audited(t *testing.T, d *directory.Dir) {
	t.Helper()
	if _, e := keyring.Chain(d.First(), d.Certs()); e != api.OK {
		t.Fatal(e)
	}
	last, _ := d.Step(0)
	for epoch := uint64(1); epoch <= d.Root().Epoch; epoch++ {
		s, e := d.Step(epoch)
		if e != api.OK || s.Root.Epoch != epoch || s.Root.Prev != last.Root.Hash {
			t.Fatal(epoch, s, e)
		}
		if e := keyring.CheckRoot(keyring.At(d.First(), d.Certs(), epoch), s.Root); e != api.OK {
			t.Fatal(epoch, e)
		}
		if s.Root.Kind == api.Append {
			e = grow.Check(last.Root.Hash, s.Root.Hash, s.Nodes, s.Added)
		} else {
			e = grow.Relink(last.Root.Hash, s.Root.Hash, s.Links)
		}
		if e != api.OK {
			t.Fatal(epoch, e)
		}
		last = s
	}
	if last.Root != d.Root() {
		t.Fatal(last.Root, d.Root())
	}
}

func TestWhatIsShownIsAccepted(t *testing.T) {
	d := directory.New([32]byte{1})
	ask := func() {
		t.Helper()
		for _, account := range []string{"a", "account-0", "account-4", "nobody"} {
			accepted(t, d, account)
		}
		audited(t, d)
	}
	ask()
	for gen := range byte(3) {
		d.Publish(many(5, gen))
		d.Publish([]api.Update{update("a", gen), update("account-4", 1, 2, 3)})
		ask()
		d.Rotate([32]byte{gen + 2})
		d.Move(4)
		ask()
		d.Move(1000)
		ask()
		if d.Root().Gen != uint64(gen)+1 {
			t.Error(d.Root())
		}
	}
}

// The mark stands at the stale labels of all versions but the latest.
func TestStaleLabels(t *testing.T) {
	p := newPair(t, [32]byte{1})
	for v := range byte(4) {
		p.publish(update("a", v))
	}
	mark := label.Mark()
	keys := p.dir.First()
	for v := uint64(1); v <= 5; v++ {
		o := p.plain.opening(name{"a", v, true})
		want := &mark
		if v >= 4 {
			want = nil
		}
		found(t, keys, p.dir.Root(), name{"a", v, true}, o, want)
	}
}
