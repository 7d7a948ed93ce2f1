package store_test

import (
	"maps"
	"math/rand"
	"slices"
	"strings"
	"testing"

	"beacon/api"
	"beacon/disk"
	"beacon/store"
)

type texts = map[string]string

func made(t testing.TB, sectors int) *disk.Disk {
	t.Helper()
	d, e := disk.New(sectors)
	if d == nil || e != api.OK {
		t.Fatalf("New(%d): %v, %v", sectors, d, e)
	}
	return d
}

func opened(t testing.TB, d *disk.Disk) *store.Store {
	t.Helper()
	s, e := store.Open(d)
	if s == nil || e != api.OK {
		t.Fatalf("Open: %v, %v", s, e)
	}
	return s
}

func refuseOpen(t testing.TB, d *disk.Disk, want api.Errno) {
	t.Helper()
	if s, e := store.Open(d); s != nil || e != want {
		t.Fatalf("Open: %v, %v, not %v", s, e, want)
	}
}

func expect(t testing.TB, what string, got, want api.Errno) {
	t.Helper()
	if got != want {
		t.Fatalf("%s: %v, not %v", what, got, want)
	}
}

func lay(key, value string) store.Change { return store.Change{Key: key, Value: value} }

func drop(key string) store.Change { return store.Change{Key: key, Gone: true} }

func batch(changes ...store.Change) []store.Change { return changes }

// behind is the plain reading of a batch: its changes done in order.
func behind(m texts, changes []store.Change) texts {
	out := texts{}
	maps.Copy(out, m)
	for _, c := range changes {
		if c.Gone {
			delete(out, c.Key)
		} else {
			out[c.Key] = c.Value
		}
	}
	return out
}

func sorted(m texts) []string { return slices.Sorted(maps.Keys(m)) }

// told is the table as its calls tell it.
func told(t testing.TB, s *store.Store) texts {
	t.Helper()
	out := texts{}
	keys := s.Keys("", "")
	for _, k := range keys {
		v, ok := s.Get(k)
		if !ok {
			t.Fatalf("Get(%q) of a key that Keys has told: false", k)
		}
		out[k] = v
	}
	if s.Size() != len(keys) || len(out) != len(keys) || !slices.IsSorted(keys) {
		t.Fatalf("Size %d, keys %q", s.Size(), keys)
	}
	return out
}

func short(m texts) string {
	var out strings.Builder
	for _, k := range sorted(m) {
		if out.Len() < 400 {
			out.WriteString(k[:min(len(k), 8)] + ":" + m[k][:min(len(m[k]), 8)] + ";")
		}
	}
	return out.String()
}

func expectTable(t testing.TB, s *store.Store, want texts) {
	t.Helper()
	if got := told(t, s); !maps.Equal(got, want) {
		t.Fatalf("%d keys %q, not %d %q", len(got), short(got), len(want), short(want))
	}
}

// expectKept: the table is this one, and stays it behind a crash.
func expectKept(t testing.TB, d *disk.Disk, s *store.Store, want texts) {
	t.Helper()
	if d.Waiting() != 0 {
		t.Fatalf("%d writes wait", d.Waiting())
	}
	expectTable(t, s, want)
	expectTable(t, opened(t, d), want)
	d.Restart(nil)
	expectTable(t, opened(t, d), want)
}

func drawn(r *rand.Rand, size int) string {
	b := make([]byte, size)
	for i := range b {
		b[i] = byte(r.Intn(256))
	}
	return string(b)
}

func imageOf(t testing.TB, d *disk.Disk) string {
	t.Helper()
	b := make([]byte, 0, d.Sectors()*api.SectorSize)
	for s := range d.Sectors() {
		data, e := d.Read(s)
		expect(t, "Read", e, api.OK)
		b = append(b, data[:]...)
	}
	return string(b)
}

func diskOf(t testing.TB, image string) *disk.Disk {
	t.Helper()
	d := made(t, len(image)/api.SectorSize)
	for s := range d.Sectors() {
		if data := [64]byte([]byte(image[s*64 : s*64+64])); data != [64]byte{} {
			d.Write(s, data)
		}
	}
	expect(t, "Sync", d.Sync(), api.OK)
	return d
}

func TestExamples(t *testing.T) {
	d := made(t, 64)
	s := opened(t, d)
	expectKept(t, d, s, texts{})
	expect(t, "Apply", s.Apply(batch(lay("b", "1"), lay("a", "2"))), api.OK)
	if k := s.Keys("", ""); !slices.Equal(k, []string{"a", "b"}) {
		t.Errorf("Keys: %q", k)
	}
	expect(t, "Apply", s.Apply(batch(drop("a"), lay("c", "3"))), api.OK)
	if v, ok := s.Get("a"); v != "" || ok {
		t.Errorf("Get(a): %q, %v", v, ok)
	}
	if k := s.Keys("b", "c"); !slices.Equal(k, []string{"b"}) {
		t.Errorf("Keys(b, c): %q", k)
	}
	expect(t, "Apply", s.Apply(batch(lay("", "x"))), api.ErrArg)
	expectKept(t, d, s, texts{"b": "1", "c": "3"})
}

func TestOpenAsksForSectors(t *testing.T) {
	refuseOpen(t, nil, api.ErrArg)
	refuseOpen(t, &disk.Disk{}, api.ErrArg)
	for _, n := range []int{1, 2, 62, 63} {
		d := made(t, n)
		refuseOpen(t, d, api.ErrArg)
		d.SetFuse(0)
		d.Sync()
		refuseOpen(t, d, api.ErrArg) // and not ErrLost, which layer 9 names behind it
	}
	for _, n := range []int{64, 65, 66, 67, 1000, 1001, api.MostItems - 1, api.MostItems} {
		d := made(t, n)
		s := opened(t, d)
		expectKept(t, d, s, texts{})
		expect(t, "Apply", s.Apply(batch(lay("a", "1"))), api.OK)
		expect(t, "Apply", s.Apply(batch(lay("b", "2"))), api.OK)
		expectKept(t, d, s, texts{"a": "1", "b": "2"})
	}
}

func TestOpenOfADiskThatIsDown(t *testing.T) {
	d := made(t, 64)
	want := texts{}
	for _, key := range []string{"a", "b", "c"} {
		d.SetFuse(0)
		d.Sync()
		for range 3 {
			refuseOpen(t, d, api.ErrLost)
		}
		d.Restart(nil)
		s := opened(t, d)
		expectKept(t, d, s, want)
		expect(t, "Apply", s.Apply(batch(lay(key, "x"))), api.OK)
		want[key] = "x"
	}
	expectKept(t, d, opened(t, d), want)
}

func TestOpenOfAFullDisk(t *testing.T) {
	d := made(t, 64)
	d.SetFull(true)
	expectKept(t, d, opened(t, d), texts{})
	expect(t, "Apply", opened(t, d).Apply(batch(lay("a", "1"))), api.ErrFull)
	d.SetFull(false)
	expect(t, "Apply", opened(t, d).Apply(batch(lay("a", "1"))), api.OK)
	d.SetFull(true)
	expectKept(t, d, opened(t, d), texts{"a": "1"})
}

func TestOpenAgainAndAgain(t *testing.T) {
	d := made(t, 65)
	expect(t, "Apply", opened(t, d).Apply(batch(lay("a", "1"), lay("b", "2"))), api.OK)
	before := imageOf(t, d)
	for range 20 {
		expectKept(t, d, opened(t, d), texts{"a": "1", "b": "2"})
	}
	if imageOf(t, d) != before {
		t.Error("Open has changed what lies on the disk")
	}
	want := texts{"a": "1", "b": "2"}
	for i := range 200 {
		more := batch(lay("b", strings.Repeat("x", i%40)))
		expect(t, "Apply", opened(t, d).Apply(more), api.OK)
		want = behind(want, more)
		expectKept(t, d, opened(t, d), want)
	}
}

// many are changes of so many keys.
func many(n int, value string) (out []store.Change) {
	for i := range n {
		out = append(out, lay(string([]byte{byte(i), byte(i >> 8)}), value))
	}
	return out
}

func TestHowManyChangesABatchHas(t *testing.T) {
	for _, full := range []bool{false, true} {
		d := made(t, 2048)
		s := opened(t, d)
		want := texts{}
		for _, n := range []int{0, 1, 255, 256} {
			d.SetFull(full)
			if full && n > 0 {
				expect(t, "Apply", s.Apply(many(n, "v")), api.ErrFull)
				expectKept(t, d, s, want)
				d.SetFull(false)
			}
			expect(t, "Apply", s.Apply(many(n, "v")), api.OK)
			want = behind(want, many(n, "v"))
			expectKept(t, d, s, want)
		}
		before := imageOf(t, d)
		for _, n := range []int{257, 258, 512, 100000} {
			expect(t, "Apply", s.Apply(many(n, "w")), api.ErrArg)
			expect(t, "Apply", s.Apply(slices.Repeat(batch(lay("a", "w")), n)), api.ErrArg)
			expect(t, "Apply", s.Apply(slices.Repeat(batch(drop("a")), n)), api.ErrArg)
		}
		if imageOf(t, d) != before {
			t.Error("a batch that was refused has changed the disk")
		}
		expectKept(t, d, s, want)
	}
}

// A batch of no changes is done, and asks nothing of the disk.
func TestBatchOfNoChanges(t *testing.T) {
	d := made(t, 64)
	s := opened(t, d)
	expect(t, "Apply", s.Apply(batch(lay("a", "1"))), api.OK)
	before := imageOf(t, d)
	for _, none := range [][]store.Change{nil, {}, make([]store.Change, 0, 5)} {
		for range 200 {
			expect(t, "Apply of none", s.Apply(none), api.OK)
		}
		d.SetFull(true)
		expect(t, "Apply of none, the disk full", s.Apply(none), api.OK)
		d.SetFuse(0)
		expect(t, "Apply of none, the fuse at 0", s.Apply(none), api.OK)
		if d.Down() {
			t.Error("a batch of no changes has burnt the fuse")
		}
		d.Sync()
		expect(t, "Apply of none, the disk down", s.Apply(none), api.OK)
		d.Restart(nil)
		d.SetFull(false)
	}
	if imageOf(t, d) != before {
		t.Error("a batch of no changes has changed the disk")
	}
	expectKept(t, d, s, texts{"a": "1"})
}

func TestLengthsOfKeysAndValues(t *testing.T) {
	const mostValue = 4 * api.MostText
	keys := map[int]api.Errno{0: api.ErrArg, 1: api.OK, 2: api.OK, api.MostKey - 1: api.OK, api.MostKey: api.OK,
		api.MostKey + 1: api.ErrArg, 1000: api.ErrArg, 1 << 20: api.ErrArg}
	values := map[int]api.Errno{0: api.OK, 1: api.OK, 100: api.OK, mostValue - 1: api.OK, mostValue: api.OK,
		mostValue + 1: api.ErrArg, 1 << 20: api.ErrArg}
	for _, gone := range []bool{false, true} {
		d := made(t, 16384)
		s := opened(t, d)
		want := texts{"a": "1"}
		expect(t, "Apply", s.Apply(batch(lay("a", "1"))), api.OK)
		for k, ofKey := range keys {
			for v, ofValue := range values {
				c := store.Change{Key: strings.Repeat("k", k), Value: strings.Repeat("v", v), Gone: gone}
				for _, changes := range [][]store.Change{{c}, {lay("b", "2"), c}, {c, lay("b", "2"), drop("c")}} {
					e := s.Apply(changes)
					if e != max(ofKey, ofValue) {
						t.Fatalf("a key of %d and a value of %d bytes, gone %v: %v", k, v, gone, e)
					}
					if e == api.OK {
						want = behind(want, changes)
					}
				}
			}
			expectKept(t, d, s, want)
		}
	}
}

// weigh is what the chapter counts for ErrLarge.
func weigh(changes []store.Change) (n int) {
	for _, c := range changes {
		n += len(c.Key) + len(c.Value) + 16
	}
	return n
}

// weighing are so many changes whose weight is just this.
func weighing(r *rand.Rand, n, weight int, gone bool) (out []store.Change) {
	for i := range n {
		c := store.Change{Key: string([]byte{byte(i), byte(i + 1)}), Gone: gone}
		left := n - i - 1
		size := min((weight-weigh(out))/(left+1)-18, 4*api.MostText)
		if left == 0 {
			size = weight - weigh(out) - 18
		}
		c.Value = drawn(r, size)
		out = append(out, c)
	}
	return out
}

func TestABatchAsLargeAsMayBe(t *testing.T) {
	r := rand.New(rand.NewSource(1))
	const most = api.MostRecord - 64
	for _, n := range []int{2, 3, 7, 100, 255, 256} {
		for _, gone := range []bool{false, true} {
			d := made(t, 16384)
			s := opened(t, d)
			for _, less := range []int{0, 1, 2, 16, 64, 80} {
				large := weighing(r, n, most-less, gone)
				if weigh(large) != most-less {
					t.Fatalf("%d changes weigh %d", n, weigh(large))
				}
				expect(t, "Apply of as much as may be", s.Apply(large), api.OK)
				expectKept(t, d, s, behind(nil, large))
			}
			want := told(t, s)
			for _, more := range []int{1, 2, 15, 16, 64, 65, 66, 1000} {
				if large := weighing(r, n, most+more, gone); len(large[n-1].Value) <= 4*api.MostText {
					expect(t, "Apply of more", s.Apply(large), api.ErrLarge)
				}
			}
			all := slices.Repeat(batch(store.Change{Key: "a", Value: drawn(r, 4*api.MostText), Gone: gone}), 256)
			expect(t, "Apply of more", s.Apply(all), api.ErrLarge)
			expectKept(t, d, s, want)
		}
	}
}

func TestWhichErrorComesFirst(t *testing.T) {
	v := strings.Repeat("v", 4*api.MostText)
	large := batch(lay("a", v), lay("b", v))
	noRoom := batch(lay("a", v))
	wrong := [][]store.Change{
		append(slices.Clone(large), lay("", "")),
		append(slices.Clone(noRoom), drop("")),
		append(slices.Clone(large), store.Change{Key: "a", Value: v + "v", Gone: true}),
		append(batch(lay("", "")), large...),
		slices.Repeat(large, 129),
		slices.Repeat(batch(lay("a", "")), 257),
	}
	d := made(t, 64)
	s := opened(t, d)
	expect(t, "Apply", s.Apply(batch(lay("a", "1"))), api.OK)
	ask := func(when string) {
		t.Helper()
		for _, w := range wrong {
			expect(t, when+", wrong", s.Apply(w), api.ErrArg)
		}
		expect(t, when+", large", s.Apply(large), api.ErrLarge)
		expect(t, when+", no room", s.Apply(noRoom), api.ErrFull)
		expectTable(t, s, texts{"a": "1"})
	}
	ask("room")
	d.SetFull(true)
	ask("the disk full")
	d.SetFuse(0)
	ask("the fuse at 0")
	if d.Down() {
		t.Error("what is refused has burnt the fuse")
	}
	d.Sync()
	ask("the disk down")
	d.Restart(nil)
	d.SetFull(false)
	expect(t, "Apply behind all of it", s.Apply(batch(lay("b", "2"))), api.OK)
	d.SetFuse(0)
	expect(t, "Apply", s.Apply(batch(lay("c", "3"))), api.ErrLost)
	for _, w := range append(wrong, large, noRoom, nil, batch(lay("c", "3"))) {
		expect(t, "Apply behind ErrLost", s.Apply(w), api.ErrLost)
	}
	d.Restart(nil)
	expectTable(t, s, texts{"a": "1", "b": "2"})
	expectKept(t, d, opened(t, d), texts{"a": "1", "b": "2"})
}

func TestChangesInOrder(t *testing.T) {
	stories := [][]store.Change{
		{drop("z")},
		{lay("a", "1"), lay("a", "2"), lay("a", "3")},
		{lay("a", "4"), drop("a")},
		{drop("a"), lay("a", "5")},
		{lay("b", ""), drop("b"), lay("b", "6"), drop("c"), lay("a", "")},
		{lay("c", "7"), drop("c"), drop("c")},
		{drop("a"), drop("b"), lay("d", "8"), lay("d", "9"), drop("d"), drop("a"), lay("e", "")},
		{store.Change{Key: "e", Value: "not laid", Gone: true}, lay("f", "x")},
		{lay("f", "x"), lay("f", "x")},
		{drop("f")},
		{drop("f"), drop("f")},
		{lay("aa", "1"), lay("a", "2"), lay("aaa", "3"), lay("b", "4"), lay("a\x00", "5"), lay("ab", "6")},
		{drop("a"), drop("aaa"), lay("a\x00", "7")},
	}
	for _, n := range []int{64, 65, 300} {
		for _, together := range []bool{false, true} {
			d := made(t, n)
			s := opened(t, d)
			want := texts{}
			for range 30 {
				for i, changes := range stories {
					if together {
						changes = slices.Concat(stories[:i+1]...)
					}
					expect(t, "Apply", s.Apply(changes), api.OK)
					want = behind(want, changes)
					expectKept(t, d, s, want)
				}
			}
		}
	}
}

// keyring are keys among which each is another's beginning, or has bytes of all kinds.
func keyring() []string {
	return []string{"\x00", "\x00\x00", "a", "a\x00", "a\x00b", "a\xff", "aa", "ab", "abc", "b", "é", "z", "\x7f", "\x80", "\xc3",
		"\xc3\x28", "\xed\xa0\x80", "\xff", "\xff\xff", strings.Repeat("a", api.MostKey), strings.Repeat("\xff", api.MostKey), "A", " ", "\n"}
}

func TestKeysOfEveryFromAndTo(t *testing.T) {
	d := made(t, 400)
	s := opened(t, d)
	bounds := append(keyring(), "", strings.Repeat("a", api.MostKey+1), strings.Repeat("\xff", 200), "a\x01", "c", "\x01")
	want := texts{}
	for i, key := range keyring() {
		changes := batch(lay(key, key+"\x00\xff"))
		if i%5 == 4 {
			changes = append(changes, drop(keyring()[i-2]))
		}
		expect(t, "Apply", s.Apply(changes), api.OK)
		want = behind(want, changes)
		for _, from := range bounds {
			for _, to := range bounds {
				var keys []string
				for _, k := range sorted(want) {
					if k >= from && (to == "" || k < to) {
						keys = append(keys, k)
					}
				}
				for _, x := range []*store.Store{s, opened(t, d)} {
					if got := x.Keys(from, to); !slices.Equal(got, keys) {
						t.Fatalf("Keys(%q, %q): %q, not %q", from, to, got, keys)
					}
				}
			}
			v, ok := s.Get(from)
			if w, there := want[from]; v != w || ok != there {
				t.Fatalf("Get(%q): %q, %v, not %q, %v", from, v, ok, w, there)
			}
		}
		expectKept(t, d, s, want)
	}
}

func TestValuesOfAnyBytes(t *testing.T) {
	d := made(t, 600)
	s := opened(t, d)
	var every strings.Builder
	for b := range 256 {
		every.WriteByte(byte(b))
	}
	values := []string{"", "\x00", "\x01", "\x00\x00\x00\x00", "\xff", "\x80", "\xc3\x28", "\xed\xa0\x80", every.String(), strings.Repeat("\x00", 300)}
	want := texts{}
	for i, v := range values {
		changes := batch(lay("k", v), lay("k"+string([]byte{byte(i)}), v), drop("k\x00"))
		expect(t, "Apply", s.Apply(changes), api.OK)
		want = behind(want, changes)
		expectKept(t, d, s, want)
	}
	// A value that is there and empty is not one that isn't there.
	expect(t, "Apply", s.Apply(batch(lay("empty", ""))), api.OK)
	for _, x := range []*store.Store{s, opened(t, d)} {
		if v, ok := x.Get("empty"); v != "" || !ok {
			t.Errorf("Get: %q, %v", v, ok)
		}
		if v, ok := x.Get("none"); v != "" || ok {
			t.Errorf("Get: %q, %v", v, ok)
		}
	}
}

func TestNilStore(t *testing.T) {
	for _, s := range []*store.Store{nil, {}} {
		for _, b := range [][]store.Change{nil, {}, {lay("a", "1")}, {lay("", "")}, many(257, ""), {drop("a")}} {
			expect(t, "Apply", s.Apply(b), api.ErrArg)
		}
		for _, k := range []string{"", "a", strings.Repeat("k", 100)} {
			if v, ok := s.Get(k); v != "" || ok {
				t.Errorf("Get: %q, %v", v, ok)
			}
			if got := s.Keys(k, ""); len(got) != 0 || len(s.Keys("", k)) != 0 {
				t.Errorf("Keys: %q", got)
			}
		}
		if s.Size() != 0 {
			t.Errorf("Size: %d", s.Size())
		}
	}
}

func TestBehindErrLost(t *testing.T) {
	for fuse := range 7 {
		for _, restart := range []bool{false, true} {
			d := made(t, 64)
			s := opened(t, d)
			want := texts{"a": "1", "b": "2"}
			expect(t, "Apply", s.Apply(batch(lay("a", "1"), lay("b", "2"))), api.OK)
			d.SetFuse(fuse)
			e := s.Apply(batch(drop("a"), lay("c", strings.Repeat("x", 100))))
			if e == api.OK {
				t.Fatalf("fuse %d: an Apply that has no more operations", fuse)
			}
			expect(t, "Apply", e, api.ErrLost)
			if restart {
				d.Restart(nil)
			}
			for range 3 {
				expectTable(t, s, want)
				expect(t, "Apply behind ErrLost", s.Apply(batch(lay("d", "4"))), api.ErrLost)
				expect(t, "Apply of none behind ErrLost", s.Apply(nil), api.ErrLost)
			}
			d.Restart(nil)
			next := opened(t, d)
			expectKept(t, d, next, want)
			expect(t, "Apply", next.Apply(batch(lay("e", "5"))), api.OK)
			expect(t, "Apply behind ErrLost", s.Apply(batch(lay("d", "4"))), api.ErrLost)
			expectTable(t, s, want)
			expectKept(t, d, next, behind(want, batch(lay("e", "5"))))
		}
	}
}

// The disk goes down by a call that isn't the table's: what is read stays.
func TestReadingWhileTheDiskIsDown(t *testing.T) {
	d := made(t, 64)
	s := opened(t, d)
	expect(t, "Apply", s.Apply(batch(lay("a", "1"))), api.OK)
	d.SetFuse(0)
	d.Sync()
	expectTable(t, s, texts{"a": "1"})
	d.Restart(nil)
	expect(t, "Apply", s.Apply(batch(lay("b", "2"))), api.OK)
	expectKept(t, d, s, texts{"a": "1", "b": "2"})
}

// Rule R2: what one table is told, one on another disk doesn't hear of.
func TestTablesSideBySide(t *testing.T) {
	one, two := made(t, 64), made(t, 64)
	s, u := opened(t, one), opened(t, two)
	expect(t, "Apply", s.Apply(batch(lay("a", "1"))), api.OK)
	expectKept(t, two, u, texts{})
	expect(t, "Apply", u.Apply(batch(lay("a", "2"), lay("b", "3"))), api.OK)
	two.SetFull(true)
	for i := range 300 {
		expect(t, "Apply", s.Apply(batch(lay("c", strings.Repeat("x", i%30)))), api.OK)
	}
	expectKept(t, two, u, texts{"a": "2", "b": "3"})
	expect(t, "Apply", u.Apply(batch(drop("a"))), api.ErrFull)
	two.SetFull(false)
	two.SetFuse(1)
	expect(t, "Apply", u.Apply(batch(drop("a"))), api.ErrLost)
	expect(t, "Apply", s.Apply(batch(drop("c"))), api.OK)
	expectKept(t, one, s, texts{"a": "1"})
	two.Restart([]byte{1})
	expectKept(t, two, opened(t, two), texts{"a": "2", "b": "3"})
	third := made(t, 64)
	expectKept(t, third, opened(t, third), texts{})
}

// P10.1 speaks of all batches that were answered OK, whichever Store has laid them.
func TestTablesOfOneDisk(t *testing.T) {
	d := made(t, 128)
	both := []*store.Store{opened(t, d), opened(t, d)}
	want := texts{}
	for i := range 1000 {
		by := i % 7 / 4
		changes := batch(lay(string([]byte{byte('a' + i%9)}), strings.Repeat("x", i%20)), drop(string([]byte{byte('a' + i%4)})))
		e := both[by].Apply(changes)
		if e == api.ErrFull { // the other one has filled the log: that is seen when it is opened again
			both[by] = opened(t, d)
			e = both[by].Apply(changes)
		}
		expect(t, "Apply", e, api.OK)
		want = behind(want, changes)
		expectTable(t, opened(t, d), want)
	}
}
