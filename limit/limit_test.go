package limit_test

import (
	"math"
	"strconv"
	"strings"
	"testing"

	"beacon/api"
	"beacon/limit"
)

const greatest = 1 << 31

// made answers a new table.
func made(t *testing.T, most, each int64) *limit.Table {
	t.Helper()
	b, e := limit.New(most, each)
	if e != api.OK || b == nil {
		t.Fatalf("New(%d, %d): %v, %v", most, each, b, e)
	}
	return b
}

// ask is one call of Take, and what stands behind it.
type ask struct {
	key    string
	now    int64
	taken  bool
	tokens int64
	size   int
}

// check does the calls one behind the other.
func check(t *testing.T, b *limit.Table, asks []ask) {
	t.Helper()
	for i, a := range asks {
		if got := b.Take(a.key, a.now); got != a.taken {
			t.Fatalf("call %d, Take(%q, %d): %v", i, a.key, a.now, got)
		}
		if got := b.Tokens(a.key); got != a.tokens {
			t.Fatalf("call %d, Take(%q, %d): %d tokens are left, want %d", i, a.key, a.now, got, a.tokens)
		}
		if got := b.Size(); got != a.size {
			t.Fatalf("call %d, Take(%q, %d): %d buckets, want %d", i, a.key, a.now, got, a.size)
		}
	}
}

// P20.1: what New takes, and what it doesn't.
func TestNew(t *testing.T) {
	fit := map[int64]bool{1: true, 2: true, 1000: true, greatest - 1: true, greatest: true}
	all := []int64{math.MinInt64, -greatest, -1, 0, 1, 2, 1000, greatest - 1, greatest, greatest + 1,
		1 << 32, 1<<32 + 1, math.MaxInt64}
	for _, most := range all {
		for _, each := range all {
			b, e := limit.New(most, each)
			if fit[most] && (each == 0 || fit[each]) {
				if e != api.OK || b == nil || b.Size() != 0 || b.Tokens("") != most || b.Tokens("a") != most {
					t.Errorf("New(%d, %d): %v", most, each, e)
				}
			} else if e != api.ErrArg || b != nil {
				t.Errorf("New(%d, %d): %v, %v", most, each, b, e)
			}
		}
	}
}

// P20.2: the example.
func TestExample(t *testing.T) {
	check(t, made(t, 2, 1), []ask{
		{"a", 0, true, 1, 1},
		{"a", 0, true, 0, 1},
		{"a", 0, false, 0, 1},
		{"a", 1, true, 0, 1},
		{"a", 0, false, 0, 1},
	})
}

// P20.2: what comes back goes up to most, is counted from the moment last
// asked, and stays nothing at a moment that isn't above that.
func TestComingBack(t *testing.T) {
	check(t, made(t, 10, 3), []ask{
		{"a", 100, true, 9, 1},
		{"a", 100, true, 8, 1},
		{"a", 100, true, 7, 1},
		{"a", 101, true, 9, 1}, // 10 of 10
		{"a", 102, true, 9, 1}, // not 12
		{"a", 102, true, 8, 1},
		{"a", 102, true, 7, 1},
		{"a", 102, true, 6, 1},
		{"a", 102, true, 5, 1},
		{"a", 103, true, 7, 1}, // 8
		{"a", 50, true, 6, 1},  // the moment stays 103
		{"a", 103, true, 5, 1},
		{"a", 104, true, 7, 1},
		{"a", 1000, true, 9, 1},
	})
	check(t, made(t, 2, 0), []ask{
		{"a", -5, true, 1, 1},
		{"a", 5, true, 0, 1},
		{"a", math.MaxInt64, false, 0, 1},
		{"b", 0, true, 1, 2},
	})
}

// P20.2: a bucket without a token is moved on also where it answers false, so
// that the same seconds aren't counted twice.
func TestNoneTaken(t *testing.T) {
	check(t, made(t, 1, 0), []ask{{"a", 0, true, 0, 1}, {"a", 7, false, 0, 1}, {"a", 7, false, 0, 1}})
	b := made(t, 5, 1)
	for range 5 {
		b.Take("a", 0)
	}
	check(t, b, []ask{
		{"a", 0, false, 0, 1},
		{"a", 3, true, 2, 1},
		{"a", 3, true, 1, 1},
		{"a", 3, true, 0, 1},
		{"a", 3, false, 0, 1},
		{"a", -9, false, 0, 1},
		{"a", 3, false, 0, 1},
		{"a", 4, true, 0, 1},
	})
}

// P20.2: nothing wraps, however far apart the moments are, and however much
// comes back.
func TestNothingWraps(t *testing.T) {
	for _, c := range []struct {
		each, from, to int64
		comes          int64 // to an empty bucket of the greatest size
	}{
		{1, math.MinInt64, math.MaxInt64, greatest},
		{greatest, math.MinInt64, math.MaxInt64, greatest},
		{greatest, math.MinInt64, 0, greatest}, // 2^94
		{2, math.MinInt64, 0, greatest},        // 2^64 is 0, where it wraps
		{4, -1 << 62, 0, greatest},
		{4, 0, 1 << 62, greatest},
		{2, 0, 1 << 62, greatest},   // 2^63 is less than 0, where it wraps
		{3, 0, 1 << 62, greatest},   // likewise
		{1, -1 << 63, -1, greatest}, // 2^63 - 1
		{1, math.MinInt64, 0, greatest},
		{1, math.MaxInt64, math.MinInt64, 0},
		{greatest, 0, math.MinInt64, 0},
		{greatest, 1, 0, 0},
		{greatest, 0, 1, greatest},
		{greatest - 1, 0, 1, greatest - 1},
		{greatest / 2, 0, 1, greatest / 2},
		{greatest / 2, 0, 2, greatest},
		{1, 0, greatest - 1, greatest - 1},
		{1, 0, greatest, greatest},
		{1, 0, greatest + 1, greatest},
		{1, -greatest, -1, greatest - 1},
		{1, math.MaxInt64 - 1, math.MaxInt64, 1},
		{1, math.MinInt64, math.MinInt64 + 1, 1},
		{5, math.MaxInt64 - 2, math.MaxInt64, 10},
		{0, math.MinInt64, math.MaxInt64, 0},
	} {
		for _, most := range []int64{1, 2, 7, 100} {
			b := made(t, most, c.each)
			for range most {
				if !b.Take("a", c.from) {
					t.Fatalf("%+v of %d: none", c, most)
				}
			}
			want := min(most, c.comes)
			if got := b.Take("a", c.to); got != (want > 0) || b.Tokens("a") != max(0, want-1) {
				t.Errorf("%+v of %d: %v, %d are left", c, most, got, b.Tokens("a"))
			}
		}
	}
}

// P20.2: at the greatest most, what comes back is held against it exactly.
func TestGreatestMost(t *testing.T) {
	check(t, made(t, greatest, greatest), []ask{
		{"a", 0, true, greatest - 1, 1},
		{"a", 0, true, greatest - 2, 1},
		{"a", 1, true, greatest - 1, 1},
		{"a", math.MaxInt64, true, greatest - 1, 1},
		{"a", math.MinInt64, true, greatest - 2, 1},
		{"b", math.MinInt64, true, greatest - 1, 2},
		{"b", math.MinInt64, true, greatest - 2, 2},
		{"b", math.MaxInt64, true, greatest - 1, 2},
	})
	check(t, made(t, greatest, 1), []ask{
		{"a", 0, true, greatest - 1, 1},
		{"a", 0, true, greatest - 2, 1},
		{"a", 0, true, greatest - 3, 1},
		{"a", 1, true, greatest - 3, 1},
		{"a", 3, true, greatest - 2, 1},
		{"a", 5, true, greatest - 1, 1},
		{"a", 6, true, greatest - 1, 1},
	})
}

// P20.2: any text is a key: none, long ones, bytes that are no UTF-8; and those
// that are nearly the same are others.
func TestKeys(t *testing.T) {
	keys := []string{"", " ", "a", "A", "a\x00", "\x00a", "\x00", "\xff", "\xff\xfe", "aa", "\u00e9", "e\u0301",
		strings.Repeat("x", 1<<20), strings.Repeat("x", 1<<20) + "y"}
	b := made(t, 1, 0)
	for i, k := range keys {
		if b.Tokens(k) != 1 || !b.Take(k, 0) || b.Tokens(k) != 0 || b.Size() != i+1 || b.Take(k, 0) {
			t.Errorf("key %d", i)
		}
	}
}

// name is the key of a number: the lesser the number, the less the key.
func name(i int) string { return "k" + strconv.Itoa(100+i) }

// full answers a full table, its buckets without a token, the i-th last asked at
// moment(i).
func full(t *testing.T, moment func(i int) int64) *limit.Table {
	t.Helper()
	b := made(t, 1, 0)
	for i := range api.MostTable {
		if !b.Take(name(i), moment(i)) || b.Size() != i+1 {
			t.Fatal(i, b.Size())
		}
	}
	return b
}

// checkLeft asks that the bucket of this key has left, and no other.
func checkLeft(t *testing.T, b *limit.Table, left string) {
	t.Helper()
	if b.Size() != api.MostTable {
		t.Errorf("%d buckets", b.Size())
	}
	for i := range api.MostTable {
		there := b.Tokens(name(i)) == 0
		if there == (name(i) == left) {
			t.Errorf("%q is there: %v; %q is to leave", name(i), there, left)
		}
	}
}

// P20.2: the one last asked at the least moment leaves, wherever it stands.
func TestLeastMomentLeaves(t *testing.T) {
	for out := range api.MostTable {
		for _, least := range []int64{math.MinInt64, -1, 8} {
			b := full(t, func(i int) int64 {
				if i == out {
					return least
				}
				return 9 + int64(i*37%api.MostTable)
			})
			if !b.Take("new", 50) || b.Tokens("new") != 0 {
				t.Error("new")
			}
			checkLeft(t, b, name(out))
		}
	}
}

// P20.2: of several the one with the least key, by bytes, leaves.
func TestLeastKeyLeaves(t *testing.T) {
	for out := range api.MostTable {
		b := full(t, func(i int) int64 {
			if i >= out && i%3 == out%3 {
				return -4
			}
			return int64(i)
		})
		b.Take("new", 0)
		checkLeft(t, b, name(out))
	}
	for _, keys := range [][2]string{{"", "\x00"}, {"a", "b"}, {"a", "aa"}, {"aa", "b"}, {"Z", "a"}, {"10", "9"},
		{"z", "\u00e9"}, {"\u00e9", "\xff"}, {"\x7f", "\x80"}, {"\uffff", "\U00010000"}, {"A", "B"}, {"B", "a"}} {
		for turn := range 2 {
			b := made(t, 1, 0)
			b.Take(keys[turn], 7)
			for i := 2; i < api.MostTable; i++ {
				b.Take("\xff\xff\xff"+name(i), 7)
			}
			b.Take(keys[1-turn], 7)
			b.Take("new", 7)
			if b.Tokens(keys[0]) != 1 || b.Tokens(keys[1]) != 0 || b.Size() != api.MostTable {
				t.Errorf("%q: %d, %d", keys, b.Tokens(keys[0]), b.Tokens(keys[1]))
			}
		}
	}
}

// P20.2: the bucket that joins isn't one of those of which one leaves, however
// early its moment and small its key.
func TestTheNewOneStays(t *testing.T) {
	b := full(t, func(i int) int64 { return int64(i) })
	if !b.Take("", math.MinInt64) || b.Tokens("") != 0 {
		t.Error("the new one")
	}
	checkLeft(t, b, name(0))
	if !b.Take("a", math.MinInt64+1) || b.Tokens("") != 1 || b.Tokens("a") != 0 {
		t.Error("the next one")
	}
	checkLeft(t, b, name(0))
}

// P20.2: the moment by which a bucket leaves is the greatest at which it was
// asked: not the first, not the last call's; and asking without a token counts.
func TestMomentOfLeaving(t *testing.T) {
	b := full(t, func(i int) int64 { return int64(i) })
	b.Take(name(0), 5000)
	b.Take(name(0), -5000)
	b.Take(name(1), 1)
	b.Take(name(2), 70)
	b.Take("new", 100)
	checkLeft(t, b, name(1))
	b.Take(name(1), 100) // comes back anew, for which 3 leaves
	if b.Tokens(name(1)) != 0 || b.Tokens(name(3)) != 1 || b.Tokens(name(2)) != 0 || b.Tokens(name(0)) != 0 {
		t.Error("the second")
	}
}

// P20.2: a bucket that has left and joins again is a full one, asked now.
func TestJoinsAgain(t *testing.T) {
	b := made(t, 3, 1)
	b.Take("a", 0)
	b.Take("a", 0)
	for i := range api.MostTable {
		b.Take(name(i), 1)
	}
	if b.Tokens("a") != 3 || b.Size() != api.MostTable {
		t.Fatal("a is there")
	}
	check(t, b, []ask{
		{"a", -7, true, 2, 64},
		{"a", -7, true, 1, 64},
		{"a", -6, true, 1, 64},
	})
}

// P20.2: at a full table, those that are there are asked without another's leaving.
func TestNoneLeaves(t *testing.T) {
	b := full(t, func(i int) int64 { return int64(i) })
	for i := range api.MostTable {
		if b.Take(name(i), 1000) {
			t.Error(i)
		}
	}
	checkLeft(t, b, "")
}

// P20.3: to tell is to change nothing: no bucket joins, no moment passes.
func TestTelling(t *testing.T) {
	b := full(t, func(i int) int64 { return int64(i) })
	for range 3 {
		if b.Tokens("none") != 1 || b.Tokens(name(0)) != 0 || b.Size() != api.MostTable {
			t.Error("told")
		}
	}
	b.Take("new", 0)
	checkLeft(t, b, name(0))
}

// R1: a table that isn't there, and one that New hasn't made.
func TestNoTable(t *testing.T) {
	var none *limit.Table
	if none.Take("a", 1) || none.Tokens("a") != 0 || none.Size() != 0 {
		t.Error("a nil table")
	}
	var zero limit.Table
	for i := range 70 {
		if zero.Take(name(i), int64(i)) || zero.Take(name(i), math.MaxInt64) || zero.Tokens(name(i)) != 0 {
			t.Error("a table that New hasn't made")
		}
	}
}
