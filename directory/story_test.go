package directory_test

import (
	"fmt"
	"math/rand"
	"testing"

	"beacon/api"
	"beacon/directory"
)

// P15.7: what a directory answers depends on its calls alone. Here all calls are
// drawn, and held against the plain reading, or against another directory.

func drawnAccount(r *rand.Rand) string {
	if r.Intn(40) == 0 {
		wrong := wrongAccounts()
		return wrong[r.Intn(len(wrong))]
	}
	return fmt.Sprint("account-", r.Intn(12))
}

func drawnBatch(r *rand.Rand) (batch []api.Update) {
	n := r.Intn(6)
	if r.Intn(20) == 0 {
		n = 30 + r.Intn(5)
	}
	for i := range n {
		account := drawnAccount(r)
		if r.Intn(20) > 0 { // else it may stand there twice
			account += fmt.Sprint(".", i)
		}
		batch = append(batch, api.Update{Account: account, Devices: drawnDevices(r)})
		if r.Intn(60) == 0 {
			wrong := wrongDevices()
			batch[i].Devices = wrong[r.Intn(len(wrong))]
		}
	}
	return batch
}

func drawnMost(r *rand.Rand) int {
	return []int{-1, 0, 1, 1, 2, 5, 10, 20, 65536, 65537}[r.Intn(10)]
}

func TestDrawnStories(t *testing.T) {
	for seed := range int64(12) {
		r := rand.New(rand.NewSource(seed))
		p := newPair(t, drawn(r))
		seen := [10]int{}
		for range 60 {
			var e api.Errno
			switch r.Intn(10) {
			case 0:
				e = p.rotate(drawn(r))
			case 1, 2, 3, 4:
				_, e = p.move(drawnMost(r))
			case 5:
				p.expectShown(fmt.Sprint(drawnAccount(r), ".", r.Intn(5)))
			default:
				e = p.publish(drawnBatch(r)...)
			}
			seen[e]++
		}
		p.expectState()
		for _, e := range []api.Errno{api.OK, api.ErrArg, api.ErrNone} {
			if seen[e] == 0 {
				t.Errorf("seed %d: the story has no %v", seed, e)
			}
		}
	}
}

// told is all that a directory tells.
func told(d *directory.Dir, accounts ...string) []any {
	out := all(d.First(), d.Certs(), d.Root(), d.Moving())
	for epoch := range d.Root().Epoch + 2 {
		s, e := d.Step(epoch)
		out = append(out, s, e)
	}
	for _, a := range accounts {
		list, n := d.Devices(a)
		l, e := d.Lookup(a)
		h, f := d.History(a)
		out = append(out, list, n, l, e, h, f)
	}
	return out
}

// noise is calls that are refused, whatever the state, and those that only tell.
func noise(t *testing.T, d *directory.Dir) {
	t.Helper()
	for _, batch := range [][]api.Update{
		nil, many(33, 1), {update("a", 9), update("A", 9)}, {update("new", 9), update("a", 9, 8)}, {update("new", 9), update("new", 9)},
	} {
		if _, e := d.Publish(batch); e != api.ErrArg {
			t.Error(batch, e)
		}
	}
	for _, most := range []int{0, -5, 65537} {
		if _, _, e := d.Move(most); e != api.ErrArg {
			t.Error(most, e)
		}
	}
	if d.Moving() > 0 {
		if _, e := d.Publish([]api.Update{update("a", 9), update("new", 9)}); e != api.ErrBusy {
			t.Error(e)
		}
		if _, e := d.Rotate([32]byte{99}); e != api.ErrBusy {
			t.Error(e)
		}
	} else if _, _, e := d.Move(3); e != api.ErrNone {
		t.Error(e)
	}
	told(d, "a", "b", "new", "A")
}

// Calls that are refused, and those that tell, leave no trace.
func TestNoTrace(t *testing.T) {
	quiet, loud := directory.New([32]byte{1}), directory.New([32]byte{1})
	names := []string{"a", "b", "new", "account-1", "A"}
	step := func(f func(d *directory.Dir) []any) {
		t.Helper()
		noise(t, loud)
		expect(t, "the answer", f(loud), f(quiet))
		noise(t, loud)
		expect(t, "all behind it", told(loud, names...), told(quiet, names...))
	}
	publish := func(batch ...api.Update) {
		t.Helper()
		step(func(d *directory.Dir) []any { return all(d.Publish(batch)) })
	}
	move := func(most int) {
		t.Helper()
		step(func(d *directory.Dir) []any { return all(d.Move(most)) })
	}
	publish(update("a", 1), update("b", 1))
	publish(update("a", 2))
	step(func(d *directory.Dir) []any { return all(d.Rotate([32]byte{2})) })
	move(1)
	move(2)
	move(3)
	publish(many(3, 4)...)
	step(func(d *directory.Dir) []any { return all(d.Rotate([32]byte{3})) })
	move(100)
	publish(update("b"))
	if quiet.Root().Epoch != 6 || quiet.Root().Gen != 2 {
		t.Error(quiet.Root())
	}
}

// Directories stand by themselves, also those of one secret.
func TestDirectoriesSideBySide(t *testing.T) {
	one, other := directory.New([32]byte{1}), directory.New([32]byte{1})
	fresh := told(directory.New([32]byte{1}), "a")
	one.Publish([]api.Update{update("a", 1)})
	one.Rotate([32]byte{2})
	one.Move(5)
	expect(t, "the other one", told(other, "a"), fresh)
	other.Publish([]api.Update{update("a", 1)})
	a, _ := one.Step(1)
	b, _ := other.Step(1)
	expect(t, "the same call", all(a), all(b))
}
