package store_test

import (
	"math/rand"
	"slices"
	"strconv"
	"strings"
	"testing"

	"beacon/api"
	"beacon/store"
)

// room is what the chapter promises, in the reading that asks for more on a disk
// of an odd number of sectors: (n / 2 - 16) * 24, rounded down at the end alone.
func room(sectors int) int { return 12*sectors - 384 }

// taken is what the chapter counts of a table.
func taken(m texts) (n int) {
	for k, v := range m {
		n += len(k) + len(v) + 64
	}
	return n
}

func numbered(i, size int) string {
	k := strconv.Itoa(i)
	return k + strings.Repeat(".", max(size-len(k), 0))
}

// filling are changes that lay a table of just the promised room: keys and values
// of about these sizes, and one that takes the rest to the last byte.
func filling(r *rand.Rand, sectors, key, value int) (out []store.Change) {
	left := room(sectors)
	for i := 0; left >= 2*(64+max(key, 7)+value); i++ {
		c := lay(numbered(i, key), drawn(r, value))
		out = append(out, c)
		left -= 64 + len(c.Key) + len(c.Value)
	}
	for last := 0; left > 0; last++ {
		k := "z" + strconv.Itoa(last)
		size := min(left-64-len(k), 4*api.MostText)
		if rest := left - 64 - len(k) - size; rest > 0 && rest < 64+len(k) {
			size -= 64 + len(k)
		}
		out = append(out, lay(k, drawn(r, size)))
		left -= 64 + len(k) + size
	}
	return out
}

// cut answers the changes as batches of at most so many, none too large.
func cut(changes []store.Change, most int) (out [][]store.Change) {
	var now []store.Change
	for _, c := range changes {
		if len(now) == most || weigh(now)+weigh(batch(c)) > api.MostRecord-64 {
			out = append(out, now)
			now = nil
		}
		now = append(now, c)
	}
	return append(out, now)
}

// overfill lays one key more at a time till ErrFull is answered, and asks that
// nothing is changed by it, and that what is taken away makes room again.
func overfill(t *testing.T, n int, s *store.Store, want texts, value string) (*store.Store, texts) {
	t.Helper()
	for i := 0; ; i++ {
		more := batch(lay("more"+strconv.Itoa(i), value))
		e := s.Apply(more)
		if e == api.ErrFull {
			if taken(behind(want, more)) <= room(n) {
				t.Fatalf("%d sectors: ErrFull, and the table would take %d of %d", n, taken(behind(want, more)), room(n))
			}
			return s, want
		}
		expect(t, "Apply", e, api.OK)
		want = behind(want, more)
		if taken(want) > 64*64*n {
			t.Fatalf("%d sectors hold %d bytes", n, taken(want))
		}
	}
}

func TestRoom(t *testing.T) {
	r := rand.New(rand.NewSource(2))
	for _, n := range []int{64, 65, 66, 67, 100, 127, 128, 129, 255, 256} {
		for _, size := range [][2]int{{1, 0}, {1, 1}, {8, 8}, {64, 0}, {64, 64}, {1, 63}, {5, 250}, {64, 30000}} {
			for _, most := range []int{1, 2, 256} {
				d := made(t, n)
				s := opened(t, d)
				want := texts{}
				for _, changes := range cut(filling(r, n, size[0], size[1]), most) {
					if e := s.Apply(changes); e != api.OK {
						t.Fatalf("%d sectors, sizes %d, %d a batch: %v", n, size, most, e)
					}
					want = behind(want, changes)
				}
				if taken(want) != room(n) {
					t.Fatalf("%d sectors: filled with %d of %d bytes", n, taken(want), room(n))
				}
				expectKept(t, d, s, want)
				s, want = overfill(t, n, s, want, drawn(r, size[1]%300))
				before := imageOf(t, d)
				for range 3 {
					expect(t, "Apply", s.Apply(batch(drop("0"), lay("great", drawn(r, 30000)))), api.ErrFull)
				}
				if imageOf(t, d) != before {
					t.Fatalf("%d sectors: ErrFull has changed the disk", n)
				}
				expectKept(t, d, s, want)
				for k := range want {
					changes := batch(drop(k), lay("!"+k[1:], want[k]))
					expect(t, "Apply of as much as was there", s.Apply(changes), api.OK)
					want = behind(want, changes)
					break
				}
				expectKept(t, d, s, want)
			}
		}
	}
}

// What is promised is promised of the table behind the batch, whatever log lies
// there: also when the table was laid long ago, and when it is opened again.
func TestRoomForWhatIsThere(t *testing.T) {
	r := rand.New(rand.NewSource(3))
	for _, n := range []int{64, 65, 97, 200, 333} {
		for _, again := range []bool{false, true} {
			d := made(t, n)
			s := opened(t, d)
			want := texts{}
			for _, changes := range cut(filling(r, n, 3, 40), 256) {
				expect(t, "Apply", s.Apply(changes), api.OK)
				want = behind(want, changes)
			}
			keys := sorted(want)
			for i := range 600 {
				k := keys[r.Intn(len(keys))]
				changes := batch(lay(k, drawn(r, len(want[k]))))
				switch i % 3 {
				case 1: // taken away and laid anew, by two batches
					expect(t, "Apply", s.Apply(batch(drop(k))), api.OK)
				case 2: // two values change places in size
					o := keys[r.Intn(len(keys))]
					changes = batch(lay(k, drawn(r, len(want[o]))), lay(o, drawn(r, len(want[k]))))
				}
				if again {
					s = opened(t, d)
				}
				expect(t, "Apply of a table that has room", s.Apply(changes), api.OK)
				want = behind(want, changes)
				if i%20 == 0 {
					expectKept(t, d, s, want)
				}
			}
			expectKept(t, d, s, want)
		}
	}
}

// A batch far greater than the disk, whose table is small: room is asked of what is there.
func TestABatchThatIsGreaterThanTheDisk(t *testing.T) {
	r := rand.New(rand.NewSource(4))
	d := made(t, 64)
	s := opened(t, d)
	want := texts{}
	for i := range 40 {
		var changes []store.Change
		for j := range 200 {
			changes = append(changes, lay(string([]byte{byte('a' + j%3)}), drawn(r, 280)))
		}
		changes = append(changes, drop("a"), drop("b"), lay("c", drawn(r, i)))
		if i%2 == 0 {
			for range 50 {
				changes = append(changes, store.Change{Key: "d", Value: drawn(r, 30), Gone: true})
			}
		}
		expect(t, "Apply", s.Apply(changes), api.OK)
		want = behind(want, changes)
		expectKept(t, d, s, want)
	}
}

// P10.4: what is gone takes no room, however much of it there was.
func TestChangedAgainAndAgain(t *testing.T) {
	r := rand.New(rand.NewSource(5))
	for _, n := range []int{64, 65, 130, 257} {
		for way := range 4 {
			d := made(t, n)
			s := opened(t, d)
			want := texts{}
			for i := range 2500 {
				var changes []store.Change
				switch way {
				case 0: // one key, again and again
					changes = batch(lay("k", drawn(r, i%100)))
				case 1: // ever new keys, the old ones taken away
					changes = batch(lay("k"+strconv.Itoa(i), drawn(r, 20)), drop("k"+strconv.Itoa(i-3)))
				case 2: // what isn't there is taken away
					changes = batch(drop("k" + strconv.Itoa(i)))
				case 3: // laid and taken away within the batch
					changes = batch(lay("k"+strconv.Itoa(i), drawn(r, 90)), drop("k"+strconv.Itoa(i)))
				}
				if e := s.Apply(changes); e != api.OK {
					t.Fatalf("%d sectors, way %d, batch %d: %v", n, way, i, e)
				}
				want = behind(want, changes)
				expectTable(t, s, want)
				switch {
				case i%100 == 0:
					expectKept(t, d, s, want)
				case i%13 == 0:
					d.SetFuse(r.Intn(9))
					if s.Apply(changes) == api.ErrLost {
						d.Restart([]byte(drawn(r, 5)))
						s = opened(t, d)
					}
					d.SetFuse(-1)
					expectTable(t, s, want)
				}
			}
		}
	}
}

func TestFullDisk(t *testing.T) {
	d := made(t, 64)
	s := opened(t, d)
	want := texts{}
	for i := range 120 {
		changes := batch(lay(string([]byte{byte('a' + i%3)}), strings.Repeat("x", i)), drop("q"))
		before := imageOf(t, d)
		d.SetFull(true)
		for range 3 {
			expect(t, "Apply", s.Apply(changes), api.ErrFull)
			expect(t, "Apply of what changes nothing", s.Apply(batch(drop("q"))), api.ErrFull)
			expectKept(t, d, s, want)
		}
		if imageOf(t, d) != before {
			t.Fatal("ErrFull has changed the disk")
		}
		d.SetFull(false)
		e := s.Apply(changes)
		if e == api.ErrFull && taken(behind(want, changes)) > room(64) {
			continue
		}
		expect(t, "Apply", e, api.OK)
		want = behind(want, changes)
		expectKept(t, d, s, want)
	}
}

// On a full disk each Apply burns the fuse; whether it answers ErrFull or, where the
// fuse has burnt down, ErrLost: nothing is changed, and ErrLost stays.
func TestFuseOfAFullDisk(t *testing.T) {
	d := made(t, 64)
	s := opened(t, d)
	want := texts{}
	for i := range 60 {
		d.SetFull(true)
		d.SetFuse(2)
		answers := []api.Errno{}
		for range 4 {
			answers = append(answers, s.Apply(batch(lay("b", "x"))))
		}
		if !slices.Equal(answers, []api.Errno{api.ErrFull, api.ErrFull, api.ErrLost, api.ErrLost}) {
			t.Fatalf("batch %d: %v", i, answers)
		}
		expectTable(t, s, want)
		d.Restart(nil)
		d.SetFull(false)
		expect(t, "Apply", s.Apply(nil), api.ErrLost)
		s = opened(t, d)
		expectKept(t, d, s, want)
		want["a"] = strings.Repeat("x", i)
		expect(t, "Apply", s.Apply(batch(lay("a", want["a"]))), api.OK)
	}
}

func TestRoomOfGreatDisks(t *testing.T) {
	r := rand.New(rand.NewSource(6))
	for _, n := range []int{api.MostItems - 1, api.MostItems} {
		for _, size := range [][2]int{{3, 5}, {64, 1000}, {64, 4 * api.MostText}} {
			d := made(t, n)
			s := opened(t, d)
			want := texts{}
			for _, changes := range cut(filling(r, n, size[0], size[1]), 256) {
				expect(t, "Apply", s.Apply(changes), api.OK)
				for _, c := range changes {
					want[c.Key] = c.Value
				}
			}
			if taken(want) != room(n) {
				t.Fatalf("%d sectors: filled with %d of %d bytes", n, taken(want), room(n))
			}
			expectKept(t, d, s, want)
			k := sorted(want)[len(want)/2]
			for range 40 {
				changes := batch(lay(k, drawn(r, len(want[k]))), lay("z0", drawn(r, len(want["z0"]))))
				if weigh(changes) > api.MostRecord-64 {
					changes = changes[:1]
				}
				expect(t, "Apply of a table that has room", s.Apply(changes), api.OK)
				for _, c := range changes {
					want[c.Key] = c.Value
				}
			}
			expectKept(t, d, s, want)
		}
	}
}

func TestOverfillingAGreatDisk(t *testing.T) {
	r := rand.New(rand.NewSource(7))
	for _, size := range []int{400, 4 * api.MostText} {
		d := made(t, api.MostItems)
		s := opened(t, d)
		want := texts{}
		value := drawn(r, size)
		for i := 0; ; i++ {
			k := "more" + strconv.Itoa(i)
			e := s.Apply(batch(lay(k, value)))
			if e == api.ErrFull {
				break
			}
			expect(t, "Apply", e, api.OK)
			want[k] = value
		}
		if taken(want)+64+9+size <= room(api.MostItems) {
			t.Fatalf("ErrFull behind %d bytes", taken(want))
		}
		expectKept(t, d, s, want)
		// However full it is, a change costs no more than its share of the log.
		for i := range 2000 {
			k := "more" + strconv.Itoa(i%len(want))
			expect(t, "Apply", s.Apply(batch(lay(k, k))), api.OK)
			expect(t, "Apply", s.Apply(batch(lay(k, value))), api.OK)
			if size > 1000 && i > 40 {
				break
			}
		}
		expectKept(t, d, s, want)
	}
}
