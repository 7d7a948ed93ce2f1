package publisher_test

import (
	"fmt"
	"math/rand"
	"testing"

	"beacon/api"
)

// Drawn calls, right ones and wrong ones, with crashes between them: each answer is
// held against the plain reading.

func drawnUpdate(r *rand.Rand) api.Update {
	u := api.Update{Account: fmt.Sprint("account-", r.Intn(10)), Devices: drawnDevices(r)}
	switch r.Intn(20) {
	case 0:
		wrong := wrongAccounts()
		u.Account = wrong[r.Intn(len(wrong))]
	case 1:
		wrong := wrongDevices()
		u.Devices = wrong[r.Intn(len(wrong))]
	}
	return u
}

func drawnTick(r *rand.Rand) int {
	if r.Intn(12) == 0 {
		wrong := wrongBatches()
		return wrong[r.Intn(len(wrong))]
	}
	return []int{1, 1, 2, 3, 5, 32}[r.Intn(6)]
}

func TestDrawnStories(t *testing.T) {
	for seed := range int64(8) {
		t.Run(fmt.Sprint(seed), func(t *testing.T) {
			t.Parallel()
			r := rand.New(rand.NewSource(seed))
			p := newPair(t, 4000)
			seen := [10]int{}
			for range 90 {
				e := api.OK
				switch r.Intn(12) {
				case 0:
					e = p.rotate(drawn(r))
				case 1, 2, 3:
					_, e = p.tick(drawnTick(r))
				case 4:
					if r.Intn(3) == 0 {
						p.reopen(drawnChoices(r, 8)...)
					}
				case 5:
					name := fmt.Sprint("account-", r.Intn(11))
					expect(t, "what is shown", shown(p.pub, name), shown(p.plain, name))
				default:
					_, e = p.submit(drawnUpdate(r))
				}
				seen[e]++
			}
			p.expectKept()
			if seen[api.OK] == 0 || seen[api.ErrArg] == 0 {
				t.Errorf("seed %d: the story is of %v", seed, seen)
			}
		})
	}
}

// P5: whatever joins the queue and whatever moves, an update that was taken at the
// place k has at most k - 1 ahead of it from then on, and is the first one in the end.
func TestPlacesOnlyComeNearer(t *testing.T) {
	r := rand.New(rand.NewSource(20))
	p := newPair(t, 4000)
	places := map[string]int{}
	for range 120 {
		u := api.Update{Account: fmt.Sprint("account-", r.Intn(30)), Devices: drawnDevices(r)}
		n, e := p.submit(u)
		if was, waits := places[u.Account]; e != api.OK || waits && n != was || !waits && n != len(places)+1 {
			t.Fatal(u.Account, n, e, places)
		}
		places[u.Account] = n
		if r.Intn(25) == 0 {
			p.rotate(drawn(r))
		}
		if r.Intn(3) > 0 {
			continue
		}
		moving, batch := p.pub.Moving() > 0, 1+r.Intn(8)
		p.tick(batch)
		if moving {
			continue
		}
		for account := range places {
			if places[account] -= batch; places[account] <= 0 {
				delete(places, account)
			}
		}
		if len(places) != len(p.pub.Queue()) {
			t.Fatal(places, p.pub.Queue())
		}
	}
	p.expectKept()
}
