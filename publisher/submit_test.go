package publisher_test

import (
	"fmt"
	"slices"
	"strings"
	"testing"

	"beacon/api"
)

// P16.2: Submit.

func TestPlacesInTheQueue(t *testing.T) {
	p := newPair(t, 1024)
	for _, c := range []struct {
		account string
		device  byte
		place   int
	}{
		{"b", 1, 1}, {"a", 2, 2}, {"b", 3, 1}, {"c", 4, 3}, {"a", 5, 2}, {"c", 6, 3}, {"d", 7, 4}, {"b", 8, 1},
	} {
		if n, e := p.submit(update(c.account, c.device)); n != c.place || e != api.OK {
			t.Error(c, n, e)
		}
	}
	p.expectKept()
	expect(t, "the queue", all(p.pub.Queue()), all([]api.Update{update("b", 8), update("a", 5), update("c", 6), update("d", 7)}))
}

// What has been published no longer waits: places are counted from the front anew.
func TestPlacesBehindATick(t *testing.T) {
	p := newPair(t, 1024)
	p.join(many(5, 1)...)
	p.tick(2)
	for i, want := range []int{4, 5, 1, 2, 3} {
		if n, _ := p.submit(update(fmt.Sprint("account-", i), 2)); n != want {
			t.Error(i, n, want)
		}
		p.expectKept()
	}
	p.reopen()
	for i, want := range []int{4, 5, 1, 2, 3} {
		if n, _ := p.submit(update(fmt.Sprint("account-", i), 3)); n != want {
			t.Error(i, n, want)
		}
	}
	p.tick(4)
	p.join(update("last"))
	p.expectKept()
	p.tick(32)
	p.join(update("again"))
	p.expectKept()
}

// An update of an account that waits takes the whole of the other one's place.
func TestTheLaterUpdateIsPublished(t *testing.T) {
	p := newPair(t, 1024)
	p.join(update("a", 1, 2, 3), update("b", 1), update("a"))
	p.expectKept()
	p.tick(32)
	p.expectKept()
	if list, n := p.pub.Devices("a"); len(list) != 0 || n != 1 {
		t.Error(list, n)
	}
	p.join(update("a", 9), update("a", 8, 9))
	p.reopen()
	p.tick(32)
	if list, n := p.pub.Devices("a"); len(list) != 2 || n != 2 {
		t.Error(list, n)
	}
}

// An update that is as the published list is one as any other.
func TestTheSameListAgain(t *testing.T) {
	p := newPair(t, 1024)
	for range 3 {
		p.join(update("a", 1))
		p.join(update("a", 1))
		p.tick(1)
	}
	p.expectKept()
	if _, n := p.pub.Devices("a"); n != 3 {
		t.Error(n)
	}
}

func wrongAccounts() []string {
	return []string{"", "A", "a b", "a/b", "a\x00", "é", "\xff", "aZ", "a:", "`", "{", strings.Repeat("a", 33), strings.Repeat("a", 1<<16)}
}

func wrongDevices() [][][32]byte {
	return [][][32]byte{
		devices(1, 1), devices(2, 1), devices(1, 3, 2), devices(0, 0), {{1}, {0, 255}},
		devices(1, 2, 3, 4, 5, 6, 7, 8, 9), make([][32]byte, 2), make([][32]byte, 9), make([][32]byte, 1<<12),
	}
}

func TestWrongUpdates(t *testing.T) {
	p := newPair(t, 1024)
	refuse := func() {
		t.Helper()
		for _, account := range wrongAccounts() {
			for _, list := range [][][32]byte{nil, devices(1), devices(2, 1)} {
				if n, e := p.submit(api.Update{Account: account, Devices: list}); n != 0 || e != api.ErrArg {
					t.Errorf("%q: %v, %v", account, n, e)
				}
			}
		}
		for _, list := range wrongDevices() {
			for _, account := range []string{"a", "new"} {
				if n, e := p.submit(api.Update{Account: account, Devices: list}); n != 0 || e != api.ErrArg {
					t.Errorf("%v: %v, %v", list, n, e)
				}
			}
		}
		p.expectKept()
	}
	refuse()
	p.join(update("a", 1))
	refuse()
	p.join(many(63)...)
	refuse() // of a full queue, too
	p.tick(1)
	p.rotate([32]byte{2})
	refuse()
}

func TestTheEdgesOfAnUpdate(t *testing.T) {
	p := newPair(t, 2048)
	long := strings.Repeat("-", 32)
	ends := [][32]byte{{}, [32]byte(slices.Repeat([]byte{255}, 32))}
	p.join(
		update("a"), update(long, 1), update("z09._-", 1, 2, 3, 4, 5, 6, 7, 8), update("0"), update("."),
		api.Update{Account: "ends", Devices: ends}, api.Update{Account: "none", Devices: [][32]byte{}},
		api.Update{Account: "nought", Devices: make([][32]byte, 1)},
	)
	p.expectKept()
	p.tick(3)
	p.expectKept()
	p.tick(32)
	p.expectKept()
	names := []string{"a", long, "z09._-", "ends", "none", "nought"}
	expect(t, "what is published", told(p.pub, names...), told(p.plain, names...))
	expect(t, "what is shown", shown(p.pub, names...), shown(p.plain, names...))
}

// Accounts of which one begins with the other, and lists that are bytes of another,
// stay apart on the disk.
func TestAccountsThatAreAlike(t *testing.T) {
	p := newPair(t, 2048)
	var names []string
	for n := range 32 {
		names = append(names, strings.Repeat("1", n+1))
		p.join(api.Update{Account: names[n], Devices: devices(1, 2, 3, 4, 5, 6, 7, 8)[:n%9]})
	}
	p.expectKept()
	for _, batch := range []int{1, 2, 29} {
		p.tick(batch)
		p.expectKept()
	}
	expect(t, "what is published", told(opened(t, p.disk, p.secret), names...), told(p.plain, names...))
}

func TestAFullQueue(t *testing.T) {
	p := newPair(t, 1024)
	p.join(many(64)...)
	for range 2 {
		for _, u := range []api.Update{update("new"), update("new", 1), update("account-64")} {
			if n, e := p.submit(u); n != 0 || e != api.ErrFull {
				t.Error(u, n, e)
			}
		}
		for i, u := range []api.Update{update("account-0", 1), update("account-31", 2), update("account-63", 3)} {
			if n, e := p.submit(u); n != []int{1, 32, 64}[i] || e != api.OK {
				t.Error(u, n, e)
			}
		}
		p.reopen()
	}
	p.tick(1)
	if n, e := p.submit(update("new", 1)); n != 64 || e != api.OK {
		t.Error(n, e)
	}
	if n, e := p.submit(update("newer", 1)); n != 0 || e != api.ErrFull {
		t.Error(n, e)
	}
	p.expectKept()
	if n := len(p.pub.Queue()); n != 64 {
		t.Error(n)
	}
}

// Updates join the queue while the directory moves, and a full one is full then too.
func TestSubmitWhileItMoves(t *testing.T) {
	p := newPair(t, 1024)
	p.join(many(3, 1)...)
	p.tick(32)
	p.rotate([32]byte{2})
	p.join(many(64)...)
	if n, e := p.submit(update("new")); n != 0 || e != api.ErrFull {
		t.Error(n, e)
	}
	p.tick(1)
	p.join(update("account-5", 7))
	p.expectKept()
	if len(p.pub.Queue()) != 64 {
		t.Error(p.pub.Queue())
	}
}

// Room is asked of what is there: an update that takes another one's place, again and
// again, doesn't run the disk full, nor does a queue that comes and goes.
func TestUpdatesTakeEachOthersPlace(t *testing.T) {
	p := newPair(t, 1024)
	for i := range 300 {
		last := byte(i % 240)
		p.join(update("a", last, last+1, last+2, last+3, last+4, last+5, last+6, last+7))
	}
	p.join(update("b", 1))
	p.expectKept()
}
